/-
  Own rows whose blocks lie in any set of blocks (not in a stretch): the same words as HeapE and OwnX. A row that grows may move behind all others: its set takes in the new block.
-/
import Derived.Test.YtcfdnfckilpppaaZd
namespace Go.Proofs.Ytcfdnfckilpppaa
open Go.RowKit M
set_option linter.unusedVariables false
set_option linter.unusedSimpArgs false
/-- A heap of own rows whose blocks lie in S. -/
def HeapS (w : World) (S : Nat → Prop) (L : List Rw) : Prop := Heap w 0 L ∧ ∀ r ∈ L, ∀ k, r.v.ownBlock = some k → S k
theorem HeapS.of {w : World} {B E : Nat} {L : List Rw} (h : HeapE w B E L) : HeapS w (Within B E) L := ⟨h.1.base (Nat.zero_le _), fun r hr k hk => ⟨h.1.base_le hr k hk, h.2 r hr k hk⟩⟩
theorem HeapS.mono {w : World} {S S' : Nat → Prop} {L : List Rw} (h : HeapS w S L) (hs : ∀ k, S k → S' k) : HeapS w S' L := ⟨h.1, fun r hr k hk => hs k (h.2 r hr k hk)⟩
theorem HeapS.below {w w' : World} {S : Nat → Prop} {L : List Rw} (h : HeapS w S L) (hb : Below w.heap.size w w') : HeapS w' S L := ⟨h.1.below hb, h.2⟩
/-- Only blocks outside of S were changed. -/
theorem HeapS.chg {w w' : World} {S S' : Nat → Prop} {L : List Rw} (h : HeapS w S L) (hc : Chg S' w w') (hd : ∀ k, S k → ¬ S' k) : HeapS w' S L := ⟨h.1.chg hc (fun r hr k hk => hd k (h.2 r hr k hk)), h.2⟩
theorem HeapS.lt {w : World} {S : Nat → Prop} {L : List Rw} (h : HeapS w S L) : HeapS w (fun k => S k ∧ k < w.heap.size) L := ⟨h.1, fun r hr k hk => ⟨h.2 r hr k hk, h.1.lt hr k hk⟩⟩
/-- Two heaps in two sets that do not meet. -/
theorem HeapS.join {w : World} {S S' : Nat → Prop} {L M : List Rw} (h : HeapS w S L) (k : HeapS w S' M) (hd : ∀ i, S i → ¬ S' i) : HeapS w (fun i => S i ∨ S' i) (L ++ M) := by
  refine ⟨⟨fun r hr => ?_, List.pairwise_append.2 ⟨h.1.ap, k.1.ap, fun a ha b hb => ?_⟩⟩, fun r hr i hi => ?_⟩
  · rcases List.mem_append.1 hr with h1 | h1
    · exact h.1.own r h1
    · exact k.1.own r h1
  · have key : ∀ (x y : Rw), x ∈ L → y ∈ M → x.v.ownBlock = none ∨ x.v.ownBlock ≠ y.v.ownBlock := by
      intro x y hx hy
      cases e : x.v.ownBlock with
      | none => exact .inl rfl
      | some i => exact .inr (fun e2 => hd i (h.2 x hx i e) (k.2 y hy i (e2.symm)))
    have key2 : ∀ (x y : Rw), x ∈ L → y ∈ M → y.v.ownBlock = none ∨ y.v.ownBlock ≠ x.v.ownBlock := by
      intro x y hx hy
      cases e : y.v.ownBlock with
      | none => exact .inl rfl
      | some i => exact .inr (fun e2 => hd i (h.2 x hx i (e2.symm)) (k.2 y hy i e))
    exact ⟨key a b ha hb, key2 a b ha hb⟩
  · rcases List.mem_append.1 hr with h1 | h1
    · exact .inl (h.2 r h1 i hi)
    · exact .inr (k.2 r h1 i hi)
section
variable {t : TypeId} {F : Nat}
def OwnS (t : TypeId) (F n : Nat) (w : World) (S : Nat → Prop) (v : Value) (ds : List Dat) : Prop :=
  ∃ vs, valsD vs ds ∧ HeapS w S (⟨v, t, F, n, vs⟩ :: innerD vs ds)
theorem OwnS.of {n : Nat} {w : World} {B E : Nat} {v : Value} {ds : List Dat} (h : OwnX t F n w B E v ds) : OwnS t F n w (Within B E) v ds := by
  obtain ⟨vs, h1, h2⟩ := h; exact ⟨vs, h1, HeapS.of h2⟩
theorem OwnS.x {n : Nat} {w : World} {S : Nat → Prop} {v : Value} {ds : List Dat} (h : OwnS t F n w S v ds) : OwnX t F n w 0 w.heap.size v ds := by
  obtain ⟨vs, h1, h2⟩ := h; exact ⟨vs, h1, HeapE.made h2.1⟩
theorem OwnS.mono {n : Nat} {w : World} {S S' : Nat → Prop} {v : Value} {ds : List Dat} (h : OwnS t F n w S v ds) (hs : ∀ k, S k → S' k) : OwnS t F n w S' v ds := by
  obtain ⟨vs, h1, h2⟩ := h; exact ⟨vs, h1, h2.mono hs⟩
theorem OwnS.below {n : Nat} {w w' : World} {S : Nat → Prop} {v : Value} {ds : List Dat} (h : OwnS t F n w S v ds) (hb : Below w.heap.size w w') : OwnS t F n w' S v ds := by
  obtain ⟨vs, h1, h2⟩ := h; exact ⟨vs, h1, h2.below hb⟩
theorem OwnS.chg {n : Nat} {w w' : World} {S S' : Nat → Prop} {v : Value} {ds : List Dat} (h : OwnS t F n w S v ds) (hc : Chg S' w w') (hd : ∀ k, S k → ¬ S' k) : OwnS t F n w' S v ds := by
  obtain ⟨vs, h1, h2⟩ := h; exact ⟨vs, h1, h2.chg hc hd⟩
theorem OwnS.blk {n : Nat} {w : World} {S : Nat → Prop} {g cap : Nat} {ds : List Dat} (h : OwnS t F n w S (.slice (some ⟨g, 0, none⟩) n cap) ds) : S g := by
  obtain ⟨vs, h1, h2⟩ := h; exact h2.2 _ List.mem_cons_self g rfl
/-- A store into a cell that holds no row. -/
theorem OwnS.set {n : Nat} {w : World} {S : Nat → Prop} {g cap : Nat} {ds : List Dat} (h : OwnS t F n w S (.slice (some ⟨g, 0, none⟩) n cap) ds) {i : Nat} {x : Value} (hd : ds[i]? = some (.val x)) (u : Value) :
    OwnS t F n (w.setCell ⟨g, i, none⟩ u) S (.slice (some ⟨g, 0, none⟩) n cap) (ds.set i (.val u)) ∧ Chg S w (w.setCell ⟨g, i, none⟩ u) := by
  have hS := h.blk
  obtain ⟨vs, h1, h2⟩ := h
  have hs := Heap.set (A := []) h2.1 i u
  refine ⟨⟨vs.set i u, ?_, ?_⟩, Chg.of_grown hs.2 (fun k hk => by injection hk with hk; subst hk; exact hS)⟩
  · obtain ⟨e, hl⟩ := split_at hd
    obtain ⟨e', hl'⟩ := split_at (valsD_val h1 hd)
    rw [e, e', valsD_append (by rw [hl, hl'])] at h1
    rw [e, e', set_mid _ _ _ _ _ hl, set_mid _ _ _ _ _ hl', valsD_append (by rw [hl, hl'])]
    exact ⟨h1.1, rfl, h1.2.2⟩
  · have hin : innerD (vs.set i u) (ds.set i (.val u)) = innerD vs ds := by
      obtain ⟨e, hl⟩ := split_at hd
      obtain ⟨e', hl'⟩ := split_at (valsD_val h1 hd)
      conv => lhs; rw [e, e', set_mid _ _ _ _ _ hl, set_mid _ _ _ _ _ hl', innerD_append _ _ _ _ (by rw [hl, hl'])]
      conv => rhs; rw [e, e', innerD_append _ _ _ _ (by rw [hl, hl'])]
      rfl
    rw [hin]
    refine ⟨hs.1, fun r hr k hk => ?_⟩
    rcases List.mem_cons.1 hr with rfl | h3
    · exact h2.2 _ List.mem_cons_self k hk
    · exact h2.2 _ (List.mem_cons_of_mem _ h3) k hk
/-- The same slice stored again where it lies. -/
theorem OwnS.again {n : Nat} {w : World} {S : Nat → Prop} {g cap : Nat} {ds : List Dat} (h : OwnS t F n w S (.slice (some ⟨g, 0, none⟩) n cap) ds) {i : Nat} (hi : i < n * F) {u : Value} (hc : w.cell? ⟨g, i, none⟩ = some u) :
    OwnS t F n (w.setCell ⟨g, i, none⟩ u) S (.slice (some ⟨g, 0, none⟩) n cap) ds ∧ Chg S w (w.setCell ⟨g, i, none⟩ u) := by
  have hS := h.blk
  obtain ⟨vs, h1, h2⟩ := h
  have hro : w.ownsRow 0 t F (.slice (some ⟨g, 0, none⟩) n cap) n vs := h2.1.own _ List.mem_cons_self
  rw [World.ownsRow.cellAt hro i hi] at hc
  have hs := Heap.set (A := []) h2.1 i u
  have e : vs.set i u = vs := by
    obtain ⟨hlt, rfl⟩ := List.getElem?_eq_some_iff.1 hc
    exact List.set_getElem_self hlt
  rw [e] at hs
  exact ⟨⟨vs, h1, hs.1, h2.2⟩, Chg.of_grown hs.2 (fun k hk => by injection hk with hk; subst hk; exact hS)⟩
/-- Another own row stored over an inner row. -/
theorem OwnS.swap {n : Nat} {w : World} {S S' : Nat → Prop} {g cap : Nat} {ds : List Dat} (h : OwnS t F n w S (.slice (some ⟨g, 0, none⟩) n cap) ds) {i : Nat} {t1 : TypeId} {F1 n1 : Nat} {cs1 : List Value} (hd : ds[i]? = some (.row t1 F1 n1 cs1))
    {t2 : TypeId} {F2 n2 : Nat} {cs2 : List Value} {u : Value} (hn : HeapS w S' [⟨u, t2, F2, n2, cs2⟩]) (hdis : ∀ k, S k → ¬ S' k) :
    OwnS t F n (w.setCell ⟨g, i, none⟩ u) (fun k => S k ∨ S' k) (.slice (some ⟨g, 0, none⟩) n cap) (ds.set i (.row t2 F2 n2 cs2)) ∧ Chg S w (w.setCell ⟨g, i, none⟩ u) := by
  have hS := h.blk
  obtain ⟨vs, h1, h2⟩ := h
  obtain ⟨u1, hu1, _⟩ := innerD_row (valsD_len h1) hd
  obtain ⟨e, hl⟩ := split_at hd
  obtain ⟨e', hl'⟩ := split_at hu1
  have hlen : (vs.take i).length = (ds.take i).length := by rw [hl, hl']
  have hin : innerD vs ds = innerD (vs.take i) (ds.take i) ++ ⟨u1, t1, F1, n1, cs1⟩ :: innerD (vs.drop (i + 1)) (ds.drop (i + 1)) := by
    conv => lhs; rw [e, e', innerD_append _ _ _ _ hlen]
    rfl
  have hin' : innerD (vs.set i u) (ds.set i (.row t2 F2 n2 cs2)) = innerD (vs.take i) (ds.take i) ++ ⟨u, t2, F2, n2, cs2⟩ :: innerD (vs.drop (i + 1)) (ds.drop (i + 1)) := by
    conv => lhs; rw [e, e', set_mid _ _ _ _ _ hl, set_mid _ _ _ _ _ hl', innerD_append _ _ _ _ hlen]
    rfl
  have hs := Heap.set (A := []) h2.1 i u
  have hc : Chg S w (w.setCell ⟨g, i, none⟩ u) := Chg.of_grown hs.2 (fun k hk => by injection hk with hk; subst hk; exact hS)
  have hsub : HeapS (w.setCell ⟨g, i, none⟩ u) S (⟨.slice (some ⟨g, 0, none⟩) n cap, t, F, n, vs.set i u⟩ :: (innerD (vs.take i) (ds.take i) ++ innerD (vs.drop (i + 1)) (ds.drop (i + 1)))) := by
    refine ⟨Heap.sub hs.1 ?_, fun r hr b hb => ?_⟩
    · rw [hin]
      exact List.Sublist.cons_cons _ (List.Sublist.append (List.Sublist.refl _) (List.sublist_cons_self _ _))
    · rcases List.mem_cons.1 hr with rfl | h3
      · exact h2.2 _ List.mem_cons_self b hb
      · refine h2.2 r (List.mem_cons_of_mem _ ?_) b hb
        rw [hin]
        rcases List.mem_append.1 h3 with h4 | h4
        · exact List.mem_append_left _ h4
        · exact List.mem_append_right _ (List.mem_cons_of_mem _ h4)
  have hj := hsub.join (hn.chg hc (fun k h' hk => hdis k hk h')) hdis
  refine ⟨⟨vs.set i u, ?_, ?_⟩, hc⟩
  · conv at h1 => rw [e, e']
    rw [valsD_append hlen] at h1
    rw [e, e', set_mid _ _ _ _ _ hl, set_mid _ _ _ _ _ hl', valsD_append hlen]
    exact ⟨h1.1, h1.2⟩
  · rw [hin']
    have hp : List.Perm (⟨.slice (some ⟨g, 0, none⟩) n cap, t, F, n, vs.set i u⟩ :: (innerD (vs.take i) (ds.take i) ++ innerD (vs.drop (i + 1)) (ds.drop (i + 1))) ++ [⟨u, t2, F2, n2, cs2⟩]) ((⟨.slice (some ⟨g, 0, none⟩) n cap, t, F, n, vs.set i u⟩ : Rw) :: (innerD (vs.take i) (ds.take i) ++ ⟨u, t2, F2, n2, cs2⟩ :: innerD (vs.drop (i + 1)) (ds.drop (i + 1)))) := by
      rw [List.cons_append, List.append_assoc]
      exact List.Perm.cons _ (List.Perm.append_left _ List.perm_append_comm)
    exact ⟨hj.1.perm hp, fun r hr k hk => hj.2 r (hp.symm.subset hr) k hk⟩
/-- An element with inner rows of its own, appended. -/
theorem OwnS.push {n : Nat} {w' w2 : World} {S S' : Nat → Prop} {v v' : Value} {us vs : List Value} {ds D' : List Dat} (h1 : valsD vs ds) (h2 : HeapS w' S (⟨v, t, F, n, vs⟩ :: innerD vs ds))
    (hu : valsD us D') (hn : HeapS w' S' (innerD us D')) (hdis : ∀ k, S k → ¬ S' k) (hr : w2.ownsRow 0 t F v' (n + 1) (vs ++ us)) (hg : w'.grownBy w2 v.ownBlock) (hv : v'.ownBlock = v.ownBlock ∨ ∀ k, v'.ownBlock = some k → w'.heap.size ≤ k) :
    OwnS t F (n + 1) w2 (fun k => (S k ∨ S' k) ∨ w'.heap.size ≤ k) v' (ds ++ D') ∧ Chg S w' w2 := by
  have hj := h2.join hn hdis
  rw [List.cons_append] at hj
  have ht := Heap.turn (A := []) (r' := ⟨v', t, F, n + 1, vs ++ us⟩) hj.1 hg hr hv
  refine ⟨⟨vs ++ us, (valsD_append (valsD_len h1)).2 ⟨h1, hu⟩, ?_⟩, Chg.of_grown hg (fun k hk => h2.2 _ List.mem_cons_self k hk)⟩
  rw [innerD_append _ _ _ _ (valsD_len h1)]
  refine ⟨ht, fun r hr' k hk => ?_⟩
  rcases List.mem_cons.1 hr' with rfl | h3
  · rcases hv with e | e
    · exact .inl (hj.2 _ List.mem_cons_self k (by rw [← e]; exact hk))
    · exact .inr (e k hk)
  · exact .inl (hj.2 r (List.mem_cons_of_mem _ h3) k hk)
end
end Go.Proofs.Ytcfdnfckilpppaa
