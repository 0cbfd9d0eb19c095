/-
  A heap of own rows, apart from one another: what calls and stores leave of it.
-/
import Derived.Test.YthfbacaamhkjpaaFlatB
namespace Go.Proofs.Ythfbacaamhkjpaa
open Go.RowKit M
set_option linter.unusedVariables false
/-- v's block, if it has one, is not u's. -/
def Ap (v u : Value) : Prop := v.ownBlock = none ∨ v.ownBlock ≠ u.ownBlock
theorem Ap.of {v u : Value} {B : Nat} (hv : ∀ k, v.ownBlock = some k → k < B) (hu : ∀ k, u.ownBlock = some k → B ≤ k) : Ap v u ∧ Ap u v := by
  cases ev : v.ownBlock with
  | none => exact ⟨.inl ev, by cases eu : u.ownBlock with
      | none => exact .inl eu
      | some k => exact .inr (by rw [eu, ev]; intro h; cases h)⟩
  | some k =>
    have h1 := hv k ev
    refine ⟨.inr ?_, ?_⟩
    · rw [ev]; intro h; have := hu k h.symm; omega
    · cases eu : u.ownBlock with
      | none => exact .inl eu
      | some j => exact .inr (by rw [eu, ev]; intro h; injection h with h; have := hu j eu; omega)
theorem Ap.symm {v u : Value} (h : Ap v u) : Ap u v := by
  cases eu : u.ownBlock with
  | none => exact .inl eu
  | some j =>
    refine .inr ?_
    rcases h with h | h
    · rw [eu, h]; intro k; cases k
    · exact fun k => h (by rw [k])
/-- One own row: the slice value, the type of an element, an element's cells, how many elements, all cells. -/
structure Rw where
  v : Value
  t : TypeId
  F : Nat
  n : Nat
  cs : List Value
def Rw.own (w : World) (base : Nat) (r : Rw) : Prop := w.ownsRow base r.t r.F r.v r.n r.cs
/-- The rows are the call's own, each in a block of its own. -/
structure Heap (w : World) (base : Nat) (L : List Rw) : Prop where
  own : ∀ r ∈ L, r.own w base
  ap : L.Pairwise fun a b => Ap a.v b.v ∧ Ap b.v a.v
theorem Heap.nil (w : World) (base : Nat) : Heap w base [] := ⟨fun r h => (by cases h), List.Pairwise.nil⟩
theorem Heap.lt {w : World} {base : Nat} {L : List Rw} (h : Heap w base L) {r : Rw} (hr : r ∈ L) : ∀ k, r.v.ownBlock = some k → k < w.heap.size := fun k hk => (World.ownsRow.lt (h.own r hr) k hk).2
theorem Heap.base_le {w : World} {base : Nat} {L : List Rw} (h : Heap w base L) {r : Rw} (hr : r ∈ L) : ∀ k, r.v.ownBlock = some k → base ≤ k := fun k hk => (World.ownsRow.lt (h.own r hr) k hk).1
theorem Rw.own_base {w : World} {b b' : Nat} {r : Rw} (h : r.own w b) (hb : b' ≤ b) : r.own w b' := by
  rcases h.2 with ⟨h1, h2⟩ | ⟨g, cap, cur, h1, h2, h3⟩
  · exact ⟨h.1, .inl ⟨h1, h2⟩⟩
  · exact ⟨h.1, .inr ⟨g, cap, cur, h1, Nat.le_trans hb h2, h3⟩⟩
theorem Heap.base {w : World} {b b' : Nat} {L : List Rw} (h : Heap w b L) (hb : b' ≤ b) : Heap w b' L := ⟨fun r hr => Rw.own_base (h.own r hr) hb, h.ap⟩
/-- What a call or a store outside leaves. -/
theorem Heap.grown {w w' : World} {base : Nat} {L : List Rw} {row : Option Nat} (h : Heap w base L) (hg : w.grownBy w' row) (hne : ∀ r ∈ L, r.v.ownBlock = none ∨ r.v.ownBlock ≠ row) : Heap w' base L :=
  ⟨fun r hr => World.ownsRow.kept (h.own r hr) hg (hne r hr), h.ap⟩
theorem Heap.below {w w' : World} {base : Nat} {L : List Rw} (h : Heap w base L) (hb : Below w.heap.size w w') : Heap w' base L :=
  h.grown (row := none) ⟨hb.os, hb.tape, hb.output, hb.size, fun i hi _ => hb.block i hi⟩ (fun r _ => by cases r.v.ownBlock <;> simp)
theorem Heap.alloc {w : World} {base : Nat} {L : List Rw} (h : Heap w base L) (o : Obj) : Heap (w.alloc o) base L := ⟨fun r hr => World.ownsRow.alloc (h.own r hr) o, h.ap⟩
theorem Heap.sub {w : World} {base : Nat} {L M : List Rw} (h : Heap w base L) (hs : List.Sublist M L) : Heap w base M := ⟨fun r hr => h.own r (hs.mem hr), h.ap.sublist hs⟩
/-- Two heaps of which one was made behind the other. -/
theorem Heap.join {w : World} {base B : Nat} {L M : List Rw} (h : Heap w base L) (k : Heap w B M) (hB : base ≤ B) (hlt : ∀ r ∈ L, ∀ b, r.v.ownBlock = some b → b < B) : Heap w base (L ++ M) := by
  refine ⟨fun r hr => ?_, ?_⟩
  · rcases List.mem_append.1 hr with h1 | h1
    · exact h.own r h1
    · exact Rw.own_base (k.own r h1) hB
  · rw [List.pairwise_append]
    exact ⟨h.ap, k.ap, fun a ha b hb => Ap.of (hlt a ha) (k.base_le hb)⟩
theorem Heap.one {w : World} {base : Nat} {r : Rw} (h : r.own w base) : Heap w base [r] := ⟨fun x hx => by rw [List.mem_singleton.1 hx]; exact h, List.pairwise_singleton _ _⟩
/-- A store into one of the rows. -/
theorem Heap.set {w : World} {base g n cap : Nat} {A M : List Rw} {t : TypeId} {F : Nat} {cs : List Value} (h : Heap w base (A ++ ⟨.slice (some ⟨g, 0, none⟩) n cap, t, F, n, cs⟩ :: M)) (j : Nat) (u : Value) :
    Heap (w.setCell ⟨g, j, none⟩ u) base (A ++ ⟨.slice (some ⟨g, 0, none⟩) n cap, t, F, n, cs.set j u⟩ :: M) ∧ w.grownBy (w.setCell ⟨g, j, none⟩ u) (some g) := by
  have hr := h.own ⟨.slice (some ⟨g, 0, none⟩) n cap, t, F, n, cs⟩ (by simp)
  have hs := World.ownsRow.stored hr j u
  have hp := h.ap
  rw [List.pairwise_append] at hp
  obtain ⟨pA, pM, pAM⟩ := hp
  rw [List.pairwise_cons] at pM
  have away : ∀ r ∈ A ++ M, r.v.ownBlock = none ∨ r.v.ownBlock ≠ some g := by
    intro r hr
    rcases List.mem_append.1 hr with h1 | h1
    · exact (pAM r h1 ⟨.slice (some ⟨g, 0, none⟩) n cap, t, F, n, cs⟩ (by simp)).1
    · exact (pM.1 r h1).2
  refine ⟨⟨fun r hr' => ?_, ?_⟩, hs.2⟩
  · rcases List.mem_append.1 hr' with h1 | h1
    · exact World.ownsRow.kept (h.own r (by simp [h1])) hs.2 (away r (by simp [h1]))
    · rcases List.mem_cons.1 h1 with rfl | h2
      · exact hs.1
      · exact World.ownsRow.kept (h.own r (by simp [h2])) hs.2 (away r (by simp [h2]))
  · rw [List.pairwise_append, List.pairwise_cons]
    exact ⟨pA, ⟨fun b hb => pM.1 b hb, pM.2⟩, fun a ha b hb => by
      rcases List.mem_cons.1 hb with rfl | h2
      · exact pAM a ha ⟨.slice (some ⟨g, 0, none⟩) n cap, t, F, n, cs⟩ (by simp)
      · exact pAM a ha b (by simp [h2])⟩
/-- One of the rows is another one now, in its own block or in a new one; the others stand. -/
theorem Heap.turn {w w' : World} {base : Nat} {A M : List Rw} {r r' : Rw} (h : Heap w base (A ++ r :: M)) (hg : w.grownBy w' r.v.ownBlock) (hr : r'.own w' base) (hv : r'.v.ownBlock = r.v.ownBlock ∨ ∀ k, r'.v.ownBlock = some k → w.heap.size ≤ k) : Heap w' base (A ++ r' :: M) := by
  have hp := h.ap
  rw [List.pairwise_append] at hp
  obtain ⟨pA, pM, pAM⟩ := hp
  rw [List.pairwise_cons] at pM
  have far : ∀ x, x ∈ A ∨ x ∈ M → Ap x.v r'.v ∧ Ap r'.v x.v := by
    intro x hx
    rcases hv with e | hk
    · have := show Ap x.v r.v ∧ Ap r.v x.v from by
        rcases hx with h1 | h1
        · exact pAM x h1 r (by simp)
        · exact (pM.1 x h1).symm
      unfold Ap at this ⊢
      rw [e]; exact this
    · exact Ap.of (fun k hk' => h.lt (by rcases hx with h1 | h1 <;> simp [h1]) k hk') hk
  have away : ∀ x, x ∈ A ∨ x ∈ M → x.v.ownBlock = none ∨ x.v.ownBlock ≠ r.v.ownBlock := by
    intro x hx
    rcases hx with h1 | h1
    · exact (pAM x h1 r (by simp)).1
    · exact (pM.1 x h1).2
  refine ⟨fun x hx => ?_, ?_⟩
  · rcases List.mem_append.1 hx with h1 | h1
    · exact World.ownsRow.kept (h.own x (by simp [h1])) hg (away x (.inl h1))
    · rcases List.mem_cons.1 h1 with rfl | h2
      · exact hr
      · exact World.ownsRow.kept (h.own x (by simp [h2])) hg (away x (.inr h2))
  · rw [List.pairwise_append, List.pairwise_cons]
    exact ⟨pA, ⟨fun b hb => (far b (.inr hb)).symm, pM.2⟩, fun a ha b hb => by
      rcases List.mem_cons.1 hb with rfl | h2
      · exact far a (.inl ha)
      · exact pAM a ha b (by simp [h2])⟩
/-- From one world to a later one no block changed but those of S. -/
structure Chg (S : Nat → Prop) (w w' : World) : Prop where
  os : w'.os = w.os
  tape : w'.tape = w.tape
  output : w'.output = w.output
  size : w.heap.size ≤ w'.heap.size
  block : ∀ i, i < w.heap.size → ¬ S i → w'.heap[i]? = w.heap[i]?
theorem Chg.refl (S : Nat → Prop) (w : World) : Chg S w w := ⟨rfl, rfl, rfl, Nat.le_refl _, fun _ _ _ => rfl⟩
theorem Chg.of_grown {S : Nat → Prop} {w w' : World} {row : Option Nat} (h : w.grownBy w' row) (hS : ∀ i, row = some i → S i) : Chg S w w' :=
  ⟨h.os, h.tape, h.output, h.size, fun i hi hn => h.block i hi (fun e => hn (hS i e.symm))⟩
theorem Chg.of_below {S : Nat → Prop} {w w' : World} (h : Below w.heap.size w w') : Chg S w w' := ⟨h.os, h.tape, h.output, h.size, fun i hi _ => h.block i hi⟩
theorem Chg.trans {S : Nat → Prop} {a b c : World} (h : Chg S a b) (k : Chg S b c) : Chg S a c :=
  ⟨k.os.trans h.os, k.tape.trans h.tape, k.output.trans h.output, Nat.le_trans h.size k.size, fun i hi hn => (k.block i (Nat.lt_of_lt_of_le hi h.size) hn).trans (h.block i hi hn)⟩
theorem Chg.to_below {S : Nat → Prop} {w0 w w' : World} {B : Nat} (hb : Below B w0 w) (h : Chg S w w') (hB : B ≤ w.heap.size) (hS : ∀ i, S i → B ≤ i) : Below B w0 w' :=
  ⟨h.os.trans hb.os, h.tape.trans hb.tape, h.output.trans hb.output, Nat.le_trans hb.size h.size, fun i hi => (h.block i (by omega) (fun s => by have := hS i s; omega)).trans (hb.block i hi)⟩
theorem ownsRow_chg {S : Nat → Prop} {w w' : World} {base n F : Nat} {t : TypeId} {v : Value} {xs : List Value} (h : w.ownsRow base t F v n xs) (hc : Chg S w w') (hn : ∀ k, v.ownBlock = some k → ¬ S k) : w'.ownsRow base t F v n xs := by
  have hlt := World.ownsRow.lt h
  rcases h.2 with ⟨h1, h2⟩ | ⟨g, cap, cur, rfl, hb, hg, h3⟩
  · exact ⟨h.1, .inl ⟨h1, h2⟩⟩
  · exact ⟨h.1, .inr ⟨g, cap, cur, rfl, hb, (hc.block g (hlt g rfl).2 (hn g rfl)).trans hg, h3⟩⟩
theorem Heap.chg {S : Nat → Prop} {w w' : World} {base : Nat} {L : List Rw} (h : Heap w base L) (hc : Chg S w w') (hn : ∀ r ∈ L, ∀ k, r.v.ownBlock = some k → ¬ S k) : Heap w' base L :=
  ⟨fun r hr => ownsRow_chg (h.own r hr) hc (hn r hr), h.ap⟩
/-- The blocks of a list of rows. -/
def Blocks (L : List Rw) (i : Nat) : Prop := ∃ r ∈ L, r.v.ownBlock = some i
/-- Rows within a row: the inner ones. -/
def inner {α : Type} (t : TypeId) (F : Nat) (c : α → Array Value) (vs : List Value) (ls : List (List α)) : List Rw := List.zipWith (fun u l => ⟨u, t, F, l.length, cellsF c l⟩) vs ls
/-- A row of rows of records, all of the call's own: the outer one has one cell for each inner one. -/
def OwnD {α : Type} (t1 t : TypeId) (F : Nat) (c : α → Array Value) (w : World) (base : Nat) (v : Value) (ls : List (List α)) : Prop :=
  ∃ vs : List Value, vs.length = ls.length ∧ Heap w base (⟨v, t1, 1, ls.length, vs⟩ :: inner t F c vs ls)
/-- The slice value v reads as rows of records. -/
def ArgD {α : Type} (F : Nat) (c : α → Array Value) (z : α) (w : World) (v : Value) (ls : List (List α)) : Prop :=
  ∃ A cap, v = .slice A ls.length cap ∧ ls.length ≤ cap ∧ cap ≤ maxLen ∧ (0 < ls.length → ∃ b off, A = some ⟨b, off, none⟩ ∧ b < w.heap.size ∧ ∀ j, j < ls.length → ∃ u, w.cell? ⟨b, off + j, none⟩ = some u ∧ RecsArg F c z w u (ls.getD j []))
theorem ArgD.below {α : Type} {F : Nat} {c : α → Array Value} {z : α} {w w' : World} {v : Value} {ls : List (List α)} (h : ArgD F c z w v ls) (hb : Below w.heap.size w w') : ArgD F c z w' v ls := by
  obtain ⟨A, cap, e, h1, h2, h3⟩ := h
  refine ⟨A, cap, e, h1, h2, fun hp => ?_⟩
  obtain ⟨b, off, ea, h4, h5⟩ := h3 hp
  exact ⟨b, off, ea, Nat.lt_of_lt_of_le h4 hb.size, fun j hj => by
    obtain ⟨u, hu, ha⟩ := h5 j hj
    exact ⟨u, (hb.cell (p := ⟨b, off + j, none⟩) h4).trans hu, ha.below hb⟩⟩
theorem OwnD.below {α : Type} {t1 t : TypeId} {F : Nat} {c : α → Array Value} {w w' : World} {base : Nat} {v : Value} {ls : List (List α)} (h : OwnD t1 t F c w base v ls) (hb : Below w.heap.size w w') : OwnD t1 t F c w' base v ls := by
  obtain ⟨vs, h1, h2⟩ := h
  exact ⟨vs, h1, h2.below hb⟩
theorem inner_at {α : Type} {t : TypeId} {F : Nat} {c : α → Array Value} {vs : List Value} {ls : List (List α)} (hl : vs.length = ls.length) (j : Nat) (hj : j < ls.length) (d : Value) : (⟨vs.getD j d, t, F, (ls.getD j []).length, cellsF c (ls.getD j [])⟩ : Rw) ∈ inner t F c vs ls := by
  unfold inner
  have hj' : j < vs.length := by omega
  rw [List.mem_iff_getElem]
  refine ⟨j, by simp [List.length_zipWith]; omega, ?_⟩
  rw [List.getElem_zipWith, List.getD_eq_getElem?_getD, List.getD_eq_getElem?_getD, List.getElem?_eq_getElem hj, List.getElem?_eq_getElem hj']
  rfl
theorem OwnD.arg {α : Type} {t1 t : TypeId} {F : Nat} {c : α → Array Value} {w : World} {base : Nat} {v : Value} {ls : List (List α)} (h : OwnD t1 t F c w base v ls) (hF : ∀ r, (c r).size = F) (z : α) : ArgD F c z w v ls := by
  obtain ⟨vs, hl, hh⟩ := h
  have ho := hh.own ⟨v, t1, 1, ls.length, vs⟩ (by simp)
  have ho' := ho
  rcases ho.2 with ⟨e, h0⟩ | ⟨g, cap, cur, e, hb, hg, hn, hm, hc, ht⟩
  · have e : v = .slice none 0 0 := e
    have h00 : ls.length = 0 := h0
    subst e
    exact ⟨none, 0, by rw [h00], by omega, Nat.zero_le _, fun h => by omega⟩
  · have e : v = .slice (some ⟨g, 0, none⟩) ls.length cap := e
    subst e
    refine ⟨_, cap, rfl, hn, hm, fun _ => ⟨g, 0, rfl, (World.ownsRow.lt ho' g rfl).2, fun j hj => ⟨vs.getD j undef, ?_, ?_⟩⟩⟩
    · have := World.ownsRow.cellAt (w := w) (size := 1) (xs := vs) ho' j (show j < ls.length * 1 by omega)
      rw [Nat.zero_add, this, List.getD_eq_getElem?_getD, List.getElem?_eq_getElem (by omega)]
      rfl
    · exact OwnF.arg (t := t) (base := base) (hh.own _ (List.mem_cons_of_mem _ (inner_at hl j hj undef))) hF z
theorem inner_cons {α : Type} {t : TypeId} {F : Nat} {c : α → Array Value} (V1 V2 : List Value) (u : Value) (X Y : List (List α)) (q : List α) (h : V1.length = X.length) :
    inner t F c (V1 ++ u :: V2) (X ++ q :: Y) = inner t F c V1 X ++ ⟨u, t, F, q.length, cellsF c q⟩ :: inner t F c V2 Y := by
  unfold inner
  induction V1 generalizing X with
  | nil => cases X with
    | nil => rfl
    | cons x X => simp at h
  | cons a V1 ih => cases X with
    | nil => simp at h
    | cons x X => simp only [List.cons_append, List.zipWith_cons_cons]; rw [ih X (by simpa using h)]
/-- The blocks lie from B on, below E. -/
def Within (B E : Nat) (i : Nat) : Prop := B ≤ i ∧ i < E
/-- A heap of own rows that lies below E. -/
def HeapE (w : World) (B E : Nat) (L : List Rw) : Prop := Heap w B L ∧ ∀ r ∈ L, ∀ k, r.v.ownBlock = some k → k < E
theorem HeapE.made {w : World} {B : Nat} {L : List Rw} (h : Heap w B L) : HeapE w B w.heap.size L := ⟨h, fun r hr => h.lt hr⟩
theorem HeapE.below {w w' : World} {B E : Nat} {L : List Rw} (h : HeapE w B E L) (hb : Below w.heap.size w w') : HeapE w' B E L := ⟨h.1.below hb, h.2⟩
/-- What was made in another stretch of blocks stands when one is marked. -/
theorem HeapE.far {w w' : World} {B E B' E' : Nat} {L : List Rw} (h : HeapE w B E L) (hc : Chg (Within B' E') w w') (hd : E ≤ B' ∨ E' ≤ B) : HeapE w' B E L :=
  ⟨h.1.chg hc (fun r hr k hk => fun hw => by have h1 := h.2 r hr k hk; have h2 := h.1.base_le hr k hk; have := hw.1; have := hw.2; omega), h.2⟩
/-- Rows of rows of records in a stretch of blocks. -/
def OwnDE {α : Type} (t1 t : TypeId) (F : Nat) (c : α → Array Value) (w : World) (B E : Nat) (v : Value) (ls : List (List α)) : Prop :=
  ∃ vs : List Value, vs.length = ls.length ∧ HeapE w B E (⟨v, t1, 1, ls.length, vs⟩ :: inner t F c vs ls)
theorem OwnD.made {α : Type} {t1 t : TypeId} {F : Nat} {c : α → Array Value} {w : World} {B : Nat} {v : Value} {ls : List (List α)} (h : OwnD t1 t F c w B v ls) : OwnDE t1 t F c w B w.heap.size v ls := by
  obtain ⟨vs, h1, h2⟩ := h; exact ⟨vs, h1, HeapE.made h2⟩
theorem OwnDE.own {α : Type} {t1 t : TypeId} {F : Nat} {c : α → Array Value} {w : World} {B E : Nat} {v : Value} {ls : List (List α)} (h : OwnDE t1 t F c w B E v ls) : OwnD t1 t F c w B v ls := by
  obtain ⟨vs, h1, h2⟩ := h; exact ⟨vs, h1, h2.1⟩
theorem OwnDE.below {α : Type} {t1 t : TypeId} {F : Nat} {c : α → Array Value} {w w' : World} {B E : Nat} {v : Value} {ls : List (List α)} (h : OwnDE t1 t F c w B E v ls) (hb : Below w.heap.size w w') : OwnDE t1 t F c w' B E v ls := by
  obtain ⟨vs, h1, h2⟩ := h; exact ⟨vs, h1, h2.below hb⟩
theorem OwnDE.far {α : Type} {t1 t : TypeId} {F : Nat} {c : α → Array Value} {w w' : World} {B E B' E' : Nat} {v : Value} {ls : List (List α)} (h : OwnDE t1 t F c w B E v ls) (hc : Chg (Within B' E') w w') (hd : E ≤ B' ∨ E' ≤ B) : OwnDE t1 t F c w' B E v ls := by
  obtain ⟨vs, h1, h2⟩ := h; exact ⟨vs, h1, h2.far hc hd⟩
end Go.Proofs.Ythfbacaamhkjpaa
