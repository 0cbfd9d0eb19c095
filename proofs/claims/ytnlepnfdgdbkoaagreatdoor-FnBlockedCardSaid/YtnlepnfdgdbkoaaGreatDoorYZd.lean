/-
  Texts of this seat, laid together.
-/
import Derived.Test.YtnlepnfdgdbkoaaGreatDoorYZc
import Derived.Test.YtnlepnfdgdbkoaaGreatDoorYJobS
import Derived.Test.YtnlepnfdgdbkoaaGreatDoorYRowN
import Derived.Test.YtnlepnfdgdbkoaaGreatDoorYMf
import Derived.Test.YtnlepnfdgdbkoaaGreatDoorYZa
import Derived.Test.YtnlepnfdgdbkoaaGreatDoorYMd
import Derived.Test.YtnlepnfdgdbkoaaGreatDoorYZb
import Derived.Laws.AppendOwnNone
import Derived.OpenShut
import Derived.ProofKit
import Derived.BigQuiet
import Derived.Deep.QuietTactic
import Derived.BigGuardPart
import Derived.Great.BuildSlice
namespace Go.Proofs.YtnlepnfdgdbkoaaGreatDoor
open Go.ChangeShapes Go.WideShapes Go.Deep Go.RowKit M
set_option linter.unusedVariables false
section
variable {H : Type} {enc : TypeId × Value → H} {w : World} {base : Nat} {spare : Nat → Bool} {held : Bool} {fuel : Nat} {x : DataW H × List MemPlace} {c : Value}
instance : Inhabited J := ⟨zeroJ⟩
instance : Inhabited E := ⟨zeroE⟩
end
end Go.Proofs.YtnlepnfdgdbkoaaGreatDoor
namespace Go.Proofs.YtnlepnfdgdbkoaaGreatDoor.M
open Go.RowKit
structure J.Fit (r : J) : Prop where
  op : r.op.Fit
  nums : inW r.serial ∧ inW r.pc ∧ inW r.k ∧ inW r.slot ∧ inW r.what ∧ inW r.e ∧ inW r.stamp ∧ inW r.old ∧ inW r.flips ∧ inW r.steps ∧ inW r.code
  keys : Go.Proofs.YtnlepnfdgdbkoaaGreatDoor.Fit r.keys
  raw : Go.Proofs.YtnlepnfdgdbkoaaGreatDoor.Fit r.raw
structure E.Fit (r : E) : Prop where
  op : r.op.Fit
  nums : inW r.kind ∧ inW r.who ∧ inW r.serial ∧ inW r.at_ ∧ inW r.code ∧ inW r.win ∧ inW r.steps ∧ inW r.flips
  rows : FitR r.rows
structure S.Fit (s : S) : Prop where
  cells : Go.Proofs.YtnlepnfdgdbkoaaGreatDoor.Fit s.cells
  jobs : ∀ j, j < s.jobs.length → (s.jobs.getD j zeroJ).Fit
  todo : FitQ s.todo
  log : ∀ j, j < s.log.length → (s.log.getD j zeroE).Fit
  serial : inW s.serial
  now : inW s.now
end Go.Proofs.YtnlepnfdgdbkoaaGreatDoor.M
namespace Go.Proofs.YtnlepnfdgdbkoaaGreatDoor
open Go.ChangeShapes Go.WideShapes Go.Deep Go.RowKit M
set_option linter.unusedVariables false
section
variable {H : Type} {enc : TypeId × Value → H} {w : World} {base : Nat} {spare : Nat → Bool} {held : Bool} {fuel : Nat} {x : DataW H × List MemPlace} {c : Value}
end
section
variable {H : Type} {enc : TypeId × Value → H} {w : World} {base : Nat} {spare : Nat → Bool} {held : Bool} {r : Reach} {b0 : Nat} {v : Value} {d : DataW H} {p : List MemPlace}
end
end Go.Proofs.YtnlepnfdgdbkoaaGreatDoor
namespace Go.Proofs.YtnlepnfdgdbkoaaGreatDoor
open Go.RowKit M
set_option linter.unusedVariables false
set_option linter.unusedSimpArgs false
section
variable {t : TypeId} {F n : Nat} {w w' : World} {B E g cap o : Nat} {D1 L D2 : List Dat}
end
end Go.Proofs.YtnlepnfdgdbkoaaGreatDoor
namespace Go.Proofs.YtnlepnfdgdbkoaaGreatDoor
open Go.RowKit M
set_option linter.unusedVariables false
set_option linter.unusedSimpArgs false
section
variable {t : TypeId} {F : Nat}
theorem pushX {n : Nat} {w w' w2 : World} {B E B' E' : Nat} {v v' : Value} {vs us : List Value} {ds D' : List Dat} (h1 : valsD vs ds) (h2 : HeapE w B E (⟨v, t, F, n, vs⟩ :: innerD vs ds)) (hb : Below w.heap.size w w')
    (hu : valsD us D') (hn : HeapE w' B' E' (innerD us D')) (hE : E ≤ B') (hB : B ≤ B') (hr : w2.ownsRow B t F v' (n + 1) (vs ++ us)) (hg : w'.grownBy w2 v.ownBlock) (hv : v'.ownBlock = v.ownBlock ∨ ∀ k, v'.ownBlock = some k → w'.heap.size ≤ k) :
    OwnX t F (n + 1) w2 B w2.heap.size v' (ds ++ D') := by
  have hj := Heap.join (h2.1.below hb) hn.1 hB (fun r hr b hb => Nat.lt_of_lt_of_le (h2.2 r hr b hb) hE)
  rw [List.cons_append] at hj
  have ht := Heap.turn (A := []) (r' := ⟨v', t, F, n + 1, vs ++ us⟩) hj hg hr hv
  refine ⟨vs ++ us, (valsD_append (valsD_len h1)).2 ⟨h1, hu⟩, ?_⟩
  rw [innerD_append _ _ _ _ (valsD_len h1)]
  exact HeapE.made ht
theorem OwnX.sees {n : Nat} {w : World} {B E : Nat} {v : Value} {ds : List Dat} (h : OwnX t F n w B E v ds) : ∃ vs, valsD vs ds ∧ HeapE w B E (⟨v, t, F, n, vs⟩ :: innerD vs ds) ∧ w.ownsRow B t F v n vs := by
  obtain ⟨vs, h1, h2⟩ := h
  exact ⟨vs, h1, h2, h2.1.own _ List.mem_cons_self⟩
theorem OwnX.again {n : Nat} {w : World} {B E g cap : Nat} {ds : List Dat} (h : OwnX t F n w B E (.slice (some ⟨g, 0, none⟩) n cap) ds) {i : Nat} (hi : i < n * F) {u : Value} (hc : w.cell? ⟨g, i, none⟩ = some u) :
    OwnX t F n (w.setCell ⟨g, i, none⟩ u) B E (.slice (some ⟨g, 0, none⟩) n cap) ds ∧ w.grownBy (w.setCell ⟨g, i, none⟩ u) (some g) := by
  obtain ⟨vs, h1, h2⟩ := h
  have hro : w.ownsRow B t F (.slice (some ⟨g, 0, none⟩) n cap) n vs := h2.1.own _ List.mem_cons_self
  rw [World.ownsRow.cellAt hro i hi] at hc
  have hs := Heap.set (A := []) h2.1 i u
  have e : vs.set i u = vs := by
    obtain ⟨hlt, rfl⟩ := List.getElem?_eq_some_iff.1 hc
    exact List.set_getElem_self hlt
  rw [e] at hs
  exact ⟨⟨vs, h1, hs.1, h2.2⟩, hs.2⟩
theorem OwnX.swap {n : Nat} {w : World} {B E B' E' g cap : Nat} {ds : List Dat} (h : OwnX t F n w B E (.slice (some ⟨g, 0, none⟩) n cap) ds) {i : Nat} {t1 : TypeId} {F1 n1 : Nat} {cs1 : List Value} (hd : ds[i]? = some (.row t1 F1 n1 cs1))
    {t2 : TypeId} {F2 n2 : Nat} {cs2 : List Value} {u : Value} (hn : HeapE w B' E' [⟨u, t2, F2, n2, cs2⟩]) (hE : E ≤ B') (hB : B ≤ B') (hE' : E ≤ E') :
    OwnX t F n (w.setCell ⟨g, i, none⟩ u) B E' (.slice (some ⟨g, 0, none⟩) n cap) (ds.set i (.row t2 F2 n2 cs2)) ∧ w.grownBy (w.setCell ⟨g, i, none⟩ u) (some g) := by
  obtain ⟨vs, h1, h2⟩ := h
  obtain ⟨u1, hu1, _⟩ := innerD_row (valsD_len h1) hd
  obtain ⟨e, hl⟩ := split_at hd
  obtain ⟨e', hl'⟩ := split_at hu1
  have hlen : (vs.take i).length = (ds.take i).length := by rw [hl, hl']
  have hin : innerD vs ds = innerD (vs.take i) (ds.take i) ++ ⟨u1, t1, F1, n1, cs1⟩ :: innerD (vs.drop (i + 1)) (ds.drop (i + 1)) := by
    conv => lhs; rw [e, e', innerD_append _ _ _ _ hlen]
    rfl
  have hin' : innerD (vs.set i u) (ds.set i (.row t2 F2 n2 cs2)) = innerD (vs.take i) (ds.take i) ++ ⟨u, t2, F2, n2, cs2⟩ :: innerD (vs.drop (i + 1)) (ds.drop (i + 1)) := by
    conv => lhs; rw [e, e', set_mid _ _ _ _ _ hl, set_mid _ _ _ _ _ hl', innerD_append _ _ _ _ hlen]
    rfl
  have hs := Heap.set (A := []) h2.1 i u
  have hsub : Heap (w.setCell ⟨g, i, none⟩ u) B (⟨.slice (some ⟨g, 0, none⟩) n cap, t, F, n, vs.set i u⟩ :: (innerD (vs.take i) (ds.take i) ++ innerD (vs.drop (i + 1)) (ds.drop (i + 1)))) := by
    refine Heap.sub hs.1 ?_
    rw [hin]
    exact List.Sublist.cons_cons _ (List.Sublist.append (List.Sublist.refl _) (List.sublist_cons_self _ _))
  have hg : g < E := h2.2 _ List.mem_cons_self g rfl
  have hnew : Heap (w.setCell ⟨g, i, none⟩ u) B' [⟨u, t2, F2, n2, cs2⟩] := hn.1.grown hs.2 (fun r hr => by
    cases e : r.v.ownBlock with
    | none => exact .inl rfl
    | some k => exact .inr (by rw [← e]; intro hk; rw [e] at hk; injection hk with hk; have := hn.1.base_le hr k e; omega))
  have hlt : ∀ r ∈ (⟨.slice (some ⟨g, 0, none⟩) n cap, t, F, n, vs.set i u⟩ : Rw) :: (innerD (vs.take i) (ds.take i) ++ innerD (vs.drop (i + 1)) (ds.drop (i + 1))), ∀ b, r.v.ownBlock = some b → b < E := by
    intro r hr b hb
    rcases List.mem_cons.1 hr with rfl | h3
    · exact h2.2 _ List.mem_cons_self b hb
    · refine h2.2 r (List.mem_cons_of_mem _ ?_) b hb
      rw [hin]
      rcases List.mem_append.1 h3 with h4 | h4
      · exact List.mem_append_left _ h4
      · exact List.mem_append_right _ (List.mem_cons_of_mem _ h4)
  have hj := hsub.join hnew hB (fun r hr b hb => Nat.lt_of_lt_of_le (hlt r hr b hb) hE)
  refine ⟨⟨vs.set i u, ?_, ?_⟩, hs.2⟩
  · conv at h1 => rw [e, e']
    rw [valsD_append hlen] at h1
    rw [e, e', set_mid _ _ _ _ _ hl, set_mid _ _ _ _ _ hl', valsD_append hlen]
    exact ⟨h1.1, h1.2⟩
  · rw [hin']
    refine ⟨hj.perm ?_, fun r hr k hk => ?_⟩
    · rw [List.cons_append, List.append_assoc]
      refine List.Perm.cons _ ?_
      exact List.Perm.append_left _ List.perm_append_comm
    · rcases List.mem_cons.1 hr with rfl | h3
      · have := hlt _ List.mem_cons_self k hk; omega
      · rcases List.mem_append.1 h3 with h4 | h4
        · have := hlt r (List.mem_cons_of_mem _ (List.mem_append_left _ h4)) k hk; omega
        · rcases List.mem_cons.1 h4 with rfl | h5
          · exact hn.2 _ (List.mem_singleton.2 rfl) k hk
          · have := hlt r (List.mem_cons_of_mem _ (List.mem_append_right _ h5)) k hk; omega
end
end Go.Proofs.YtnlepnfdgdbkoaaGreatDoor
namespace Go.Proofs.YtnlepnfdgdbkoaaGreatDoor
open Go.RowKit M
set_option linter.unusedVariables false
set_option linter.unusedSimpArgs false
theorem fold_cells (vs : List Value) : ∀ (k : Nat) (ini : Array Value), k + vs.length = ini.size → (vs.zipIdx k).foldl (fun (cs : Array Value) (p : Value × Nat) => cs.setIfInBounds p.2 p.1) ini = (ini.toList.take k ++ vs).toArray := by
  induction vs with
  | nil =>
    intro k ini h
    simp only [List.length_nil, Nat.add_zero] at h
    subst h
    apply Array.ext'
    simp [List.take_of_length_le, Array.length_toList]
  | cons v vs ih =>
    intro k ini h
    rw [List.length_cons] at h
    rw [List.zipIdx_cons, List.foldl_cons, ih (k + 1) _ (by rw [Array.size_setIfInBounds]; omega)]
    congr 1
    rw [Array.toList_setIfInBounds, List.take_add_one, List.take_set_of_le (Nat.le_refl k), List.getElem?_set_self (by rw [Array.length_toList]; omega), List.append_assoc]
    rfl
theorem fill_one (cells ini : Array Value) (size : Nat) (h : cells.size = size) (hi : ini.size = size) : Instr.fill (fun i => some (i * size, size)) ini [(0, .agg cells)] = some cells := by
  have e : (Value.agg cells).cells = cells := rfl
  unfold Instr.fill
  simp only [e, h, hi, Nat.zero_mul, Nat.zero_add, ne_eq, not_true_eq_false, gt_iff_lt, Nat.lt_irrefl, false_or, decide_false, Bool.false_eq_true, if_false, or_self, Bool.or_false, Bool.or_self]
  unfold Instr.fill
  congr 1
  rw [← Array.foldl_toList, Array.toList_zipIdx]
  have := fold_cells cells.toList 0 ini (by rw [Nat.zero_add, Array.length_toList, h, hi])
  simp only [List.take_zero, List.nil_append, Array.toArray_toList] at this
  exact this
theorem fold_rec (cells ini : Array Value) (n : Nat) (h : cells.size = n) (hi : ini.size = n) : Array.foldl (fun (cs : Array Value) (x : Value × Nat) => cs.setIfInBounds x.snd x.fst) ini cells.zipIdx 0 n = cells := by
  subst h
  have e : cells.size = cells.zipIdx.size := by simp
  rw [show Array.foldl (fun (cs : Array Value) (x : Value × Nat) => cs.setIfInBounds x.snd x.fst) ini cells.zipIdx 0 cells.size = Array.foldl (fun (cs : Array Value) (x : Value × Nat) => cs.setIfInBounds x.snd x.fst) ini cells.zipIdx 0 cells.zipIdx.size by rw [← e]]
  rw [← Array.foldl_toList, Array.toList_zipIdx]
  have := fold_cells cells.toList 0 ini (by rw [Nat.zero_add, Array.length_toList, hi])
  simp only [List.take_zero, List.nil_append, Array.toArray_toList] at this
  exact this
end Go.Proofs.YtnlepnfdgdbkoaaGreatDoor
namespace Go.Proofs.YtnlepnfdgdbkoaaGreatDoor
open Go.RowKit M
set_option linter.unusedVariables false
set_option linter.unusedSimpArgs false
def HeapS (w : World) (S : Nat → Prop) (L : List Rw) : Prop := Heap w 0 L ∧ ∀ r ∈ L, ∀ k, r.v.ownBlock = some k → S k
theorem HeapS.of {w : World} {B E : Nat} {L : List Rw} (h : HeapE w B E L) : HeapS w (Within B E) L := ⟨h.1.base (Nat.zero_le _), fun r hr k hk => ⟨h.1.base_le hr k hk, h.2 r hr k hk⟩⟩
theorem HeapS.mono {w : World} {S S' : Nat → Prop} {L : List Rw} (h : HeapS w S L) (hs : ∀ k, S k → S' k) : HeapS w S' L := ⟨h.1, fun r hr k hk => hs k (h.2 r hr k hk)⟩
theorem HeapS.below {w w' : World} {S : Nat → Prop} {L : List Rw} (h : HeapS w S L) (hb : Below w.heap.size w w') : HeapS w' S L := ⟨h.1.below hb, h.2⟩
theorem HeapS.chg {w w' : World} {S S' : Nat → Prop} {L : List Rw} (h : HeapS w S L) (hc : Chg S' w w') (hd : ∀ k, S k → ¬ S' k) : HeapS w' S L := ⟨h.1.chg hc (fun r hr k hk => hd k (h.2 r hr k hk)), h.2⟩
theorem HeapS.lt {w : World} {S : Nat → Prop} {L : List Rw} (h : HeapS w S L) : HeapS w (fun k => S k ∧ k < w.heap.size) L := ⟨h.1, fun r hr k hk => ⟨h.2 r hr k hk, h.1.lt hr k hk⟩⟩
theorem HeapS.join {w : World} {S S' : Nat → Prop} {L M : List Rw} (h : HeapS w S L) (k : HeapS w S' M) (hd : ∀ i, S i → ¬ S' i) : HeapS w (fun i => S i ∨ S' i) (L ++ M) := by
  refine ⟨⟨fun r hr => ?_, List.pairwise_append.2 ⟨h.1.ap, k.1.ap, fun a ha b hb => ?_⟩⟩, fun r hr i hi => ?_⟩
  · rcases List.mem_append.1 hr with h1 | h1
    · exact h.1.own r h1
    · exact k.1.own r h1
  · have key : ∀ (x y : Rw), x ∈ L → y ∈ M → x.v.ownBlock = none ∨ x.v.ownBlock ≠ y.v.ownBlock := by
      intro x y hx hy
      cases e : x.v.ownBlock with
      | none => exact .inl rfl
      | some i => exact .inr (fun e2 => hd i (h.2 x hx i e) (k.2 y hy i (e2.symm)))
    have key2 : ∀ (x y : Rw), x ∈ L → y ∈ M → y.v.ownBlock = none ∨ y.v.ownBlock ≠ x.v.ownBlock := by
      intro x y hx hy
      cases e : y.v.ownBlock with
      | none => exact .inl rfl
      | some i => exact .inr (fun e2 => hd i (h.2 x hx i (e2.symm)) (k.2 y hy i e))
    exact ⟨key a b ha hb, key2 a b ha hb⟩
  · rcases List.mem_append.1 hr with h1 | h1
    · exact .inl (h.2 r h1 i hi)
    · exact .inr (k.2 r h1 i hi)
section
variable {t : TypeId} {F : Nat}
def OwnS (t : TypeId) (F n : Nat) (w : World) (S : Nat → Prop) (v : Value) (ds : List Dat) : Prop :=
  ∃ vs, valsD vs ds ∧ HeapS w S (⟨v, t, F, n, vs⟩ :: innerD vs ds)
theorem OwnS.of {n : Nat} {w : World} {B E : Nat} {v : Value} {ds : List Dat} (h : OwnX t F n w B E v ds) : OwnS t F n w (Within B E) v ds := by
  obtain ⟨vs, h1, h2⟩ := h; exact ⟨vs, h1, HeapS.of h2⟩
theorem OwnS.x {n : Nat} {w : World} {S : Nat → Prop} {v : Value} {ds : List Dat} (h : OwnS t F n w S v ds) : OwnX t F n w 0 w.heap.size v ds := by
  obtain ⟨vs, h1, h2⟩ := h; exact ⟨vs, h1, HeapE.made h2.1⟩
theorem OwnS.mono {n : Nat} {w : World} {S S' : Nat → Prop} {v : Value} {ds : List Dat} (h : OwnS t F n w S v ds) (hs : ∀ k, S k → S' k) : OwnS t F n w S' v ds := by
  obtain ⟨vs, h1, h2⟩ := h; exact ⟨vs, h1, h2.mono hs⟩
theorem OwnS.below {n : Nat} {w w' : World} {S : Nat → Prop} {v : Value} {ds : List Dat} (h : OwnS t F n w S v ds) (hb : Below w.heap.size w w') : OwnS t F n w' S v ds := by
  obtain ⟨vs, h1, h2⟩ := h; exact ⟨vs, h1, h2.below hb⟩
theorem OwnS.chg {n : Nat} {w w' : World} {S S' : Nat → Prop} {v : Value} {ds : List Dat} (h : OwnS t F n w S v ds) (hc : Chg S' w w') (hd : ∀ k, S k → ¬ S' k) : OwnS t F n w' S v ds := by
  obtain ⟨vs, h1, h2⟩ := h; exact ⟨vs, h1, h2.chg hc hd⟩
theorem OwnS.blk {n : Nat} {w : World} {S : Nat → Prop} {g cap : Nat} {ds : List Dat} (h : OwnS t F n w S (.slice (some ⟨g, 0, none⟩) n cap) ds) : S g := by
  obtain ⟨vs, h1, h2⟩ := h; exact h2.2 _ List.mem_cons_self g rfl
theorem OwnS.set {n : Nat} {w : World} {S : Nat → Prop} {g cap : Nat} {ds : List Dat} (h : OwnS t F n w S (.slice (some ⟨g, 0, none⟩) n cap) ds) {i : Nat} {x : Value} (hd : ds[i]? = some (.val x)) (u : Value) :
    OwnS t F n (w.setCell ⟨g, i, none⟩ u) S (.slice (some ⟨g, 0, none⟩) n cap) (ds.set i (.val u)) ∧ Chg S w (w.setCell ⟨g, i, none⟩ u) := by
  have hS := h.blk
  obtain ⟨vs, h1, h2⟩ := h
  have hs := Heap.set (A := []) h2.1 i u
  refine ⟨⟨vs.set i u, ?_, ?_⟩, Chg.of_grown hs.2 (fun k hk => by injection hk with hk; subst hk; exact hS)⟩
  · obtain ⟨e, hl⟩ := split_at hd
    obtain ⟨e', hl'⟩ := split_at (valsD_val h1 hd)
    rw [e, e', valsD_append (by rw [hl, hl'])] at h1
    rw [e, e', set_mid _ _ _ _ _ hl, set_mid _ _ _ _ _ hl', valsD_append (by rw [hl, hl'])]
    exact ⟨h1.1, rfl, h1.2.2⟩
  · have hin : innerD (vs.set i u) (ds.set i (.val u)) = innerD vs ds := by
      obtain ⟨e, hl⟩ := split_at hd
      obtain ⟨e', hl'⟩ := split_at (valsD_val h1 hd)
      conv => lhs; rw [e, e', set_mid _ _ _ _ _ hl, set_mid _ _ _ _ _ hl', innerD_append _ _ _ _ (by rw [hl, hl'])]
      conv => rhs; rw [e, e', innerD_append _ _ _ _ (by rw [hl, hl'])]
      rfl
    rw [hin]
    refine ⟨hs.1, fun r hr k hk => ?_⟩
    rcases List.mem_cons.1 hr with rfl | h3
    · exact h2.2 _ List.mem_cons_self k hk
    · exact h2.2 _ (List.mem_cons_of_mem _ h3) k hk
theorem OwnS.again {n : Nat} {w : World} {S : Nat → Prop} {g cap : Nat} {ds : List Dat} (h : OwnS t F n w S (.slice (some ⟨g, 0, none⟩) n cap) ds) {i : Nat} (hi : i < n * F) {u : Value} (hc : w.cell? ⟨g, i, none⟩ = some u) :
    OwnS t F n (w.setCell ⟨g, i, none⟩ u) S (.slice (some ⟨g, 0, none⟩) n cap) ds ∧ Chg S w (w.setCell ⟨g, i, none⟩ u) := by
  have hS := h.blk
  obtain ⟨vs, h1, h2⟩ := h
  have hro : w.ownsRow 0 t F (.slice (some ⟨g, 0, none⟩) n cap) n vs := h2.1.own _ List.mem_cons_self
  rw [World.ownsRow.cellAt hro i hi] at hc
  have hs := Heap.set (A := []) h2.1 i u
  have e : vs.set i u = vs := by
    obtain ⟨hlt, rfl⟩ := List.getElem?_eq_some_iff.1 hc
    exact List.set_getElem_self hlt
  rw [e] at hs
  exact ⟨⟨vs, h1, hs.1, h2.2⟩, Chg.of_grown hs.2 (fun k hk => by injection hk with hk; subst hk; exact hS)⟩
theorem OwnS.swap {n : Nat} {w : World} {S S' : Nat → Prop} {g cap : Nat} {ds : List Dat} (h : OwnS t F n w S (.slice (some ⟨g, 0, none⟩) n cap) ds) {i : Nat} {t1 : TypeId} {F1 n1 : Nat} {cs1 : List Value} (hd : ds[i]? = some (.row t1 F1 n1 cs1))
    {t2 : TypeId} {F2 n2 : Nat} {cs2 : List Value} {u : Value} (hn : HeapS w S' [⟨u, t2, F2, n2, cs2⟩]) (hdis : ∀ k, S k → ¬ S' k) :
    OwnS t F n (w.setCell ⟨g, i, none⟩ u) (fun k => S k ∨ S' k) (.slice (some ⟨g, 0, none⟩) n cap) (ds.set i (.row t2 F2 n2 cs2)) ∧ Chg S w (w.setCell ⟨g, i, none⟩ u) := by
  have hS := h.blk
  obtain ⟨vs, h1, h2⟩ := h
  obtain ⟨u1, hu1, _⟩ := innerD_row (valsD_len h1) hd
  obtain ⟨e, hl⟩ := split_at hd
  obtain ⟨e', hl'⟩ := split_at hu1
  have hlen : (vs.take i).length = (ds.take i).length := by rw [hl, hl']
  have hin : innerD vs ds = innerD (vs.take i) (ds.take i) ++ ⟨u1, t1, F1, n1, cs1⟩ :: innerD (vs.drop (i + 1)) (ds.drop (i + 1)) := by
    conv => lhs; rw [e, e', innerD_append _ _ _ _ hlen]
    rfl
  have hin' : innerD (vs.set i u) (ds.set i (.row t2 F2 n2 cs2)) = innerD (vs.take i) (ds.take i) ++ ⟨u, t2, F2, n2, cs2⟩ :: innerD (vs.drop (i + 1)) (ds.drop (i + 1)) := by
    conv => lhs; rw [e, e', set_mid _ _ _ _ _ hl, set_mid _ _ _ _ _ hl', innerD_append _ _ _ _ hlen]
    rfl
  have hs := Heap.set (A := []) h2.1 i u
  have hc : Chg S w (w.setCell ⟨g, i, none⟩ u) := Chg.of_grown hs.2 (fun k hk => by injection hk with hk; subst hk; exact hS)
  have hsub : HeapS (w.setCell ⟨g, i, none⟩ u) S (⟨.slice (some ⟨g, 0, none⟩) n cap, t, F, n, vs.set i u⟩ :: (innerD (vs.take i) (ds.take i) ++ innerD (vs.drop (i + 1)) (ds.drop (i + 1)))) := by
    refine ⟨Heap.sub hs.1 ?_, fun r hr b hb => ?_⟩
    · rw [hin]
      exact List.Sublist.cons_cons _ (List.Sublist.append (List.Sublist.refl _) (List.sublist_cons_self _ _))
    · rcases List.mem_cons.1 hr with rfl | h3
      · exact h2.2 _ List.mem_cons_self b hb
      · refine h2.2 r (List.mem_cons_of_mem _ ?_) b hb
        rw [hin]
        rcases List.mem_append.1 h3 with h4 | h4
        · exact List.mem_append_left _ h4
        · exact List.mem_append_right _ (List.mem_cons_of_mem _ h4)
  have hj := hsub.join (hn.chg hc (fun k h' hk => hdis k hk h')) hdis
  refine ⟨⟨vs.set i u, ?_, ?_⟩, hc⟩
  · conv at h1 => rw [e, e']
    rw [valsD_append hlen] at h1
    rw [e, e', set_mid _ _ _ _ _ hl, set_mid _ _ _ _ _ hl', valsD_append hlen]
    exact ⟨h1.1, h1.2⟩
  · rw [hin']
    have hp : List.Perm (⟨.slice (some ⟨g, 0, none⟩) n cap, t, F, n, vs.set i u⟩ :: (innerD (vs.take i) (ds.take i) ++ innerD (vs.drop (i + 1)) (ds.drop (i + 1))) ++ [⟨u, t2, F2, n2, cs2⟩]) ((⟨.slice (some ⟨g, 0, none⟩) n cap, t, F, n, vs.set i u⟩ : Rw) :: (innerD (vs.take i) (ds.take i) ++ ⟨u, t2, F2, n2, cs2⟩ :: innerD (vs.drop (i + 1)) (ds.drop (i + 1)))) := by
      rw [List.cons_append, List.append_assoc]
      exact List.Perm.cons _ (List.Perm.append_left _ List.perm_append_comm)
    exact ⟨hj.1.perm hp, fun r hr k hk => hj.2 r (hp.symm.subset hr) k hk⟩
theorem OwnS.push {n : Nat} {w' w2 : World} {S S' : Nat → Prop} {v v' : Value} {us vs : List Value} {ds D' : List Dat} (h1 : valsD vs ds) (h2 : HeapS w' S (⟨v, t, F, n, vs⟩ :: innerD vs ds))
    (hu : valsD us D') (hn : HeapS w' S' (innerD us D')) (hdis : ∀ k, S k → ¬ S' k) (hr : w2.ownsRow 0 t F v' (n + 1) (vs ++ us)) (hg : w'.grownBy w2 v.ownBlock) (hv : v'.ownBlock = v.ownBlock ∨ ∀ k, v'.ownBlock = some k → w'.heap.size ≤ k) :
    OwnS t F (n + 1) w2 (fun k => (S k ∨ S' k) ∨ w'.heap.size ≤ k) v' (ds ++ D') ∧ Chg S w' w2 := by
  have hj := h2.join hn hdis
  rw [List.cons_append] at hj
  have ht := Heap.turn (A := []) (r' := ⟨v', t, F, n + 1, vs ++ us⟩) hj.1 hg hr hv
  refine ⟨⟨vs ++ us, (valsD_append (valsD_len h1)).2 ⟨h1, hu⟩, ?_⟩, Chg.of_grown hg (fun k hk => h2.2 _ List.mem_cons_self k hk)⟩
  rw [innerD_append _ _ _ _ (valsD_len h1)]
  refine ⟨ht, fun r hr' k hk => ?_⟩
  rcases List.mem_cons.1 hr' with rfl | h3
  · rcases hv with e | e
    · exact .inl (hj.2 _ List.mem_cons_self k (by rw [← e]; exact hk))
    · exact .inr (e k hk)
  · exact .inl (hj.2 r (List.mem_cons_of_mem _ h3) k hk)
end
end Go.Proofs.YtnlepnfdgdbkoaaGreatDoor
namespace Go.Proofs.YtnlepnfdgdbkoaaGreatDoor
open Go.RowKit M
set_option linter.unusedVariables false
set_option linter.unusedSimpArgs false
def Rd (w : World) (S : Nat → Prop) (u : Value) (n : Nat) (cs : List Value) : Prop :=
  (u = .slice none 0 0 ∧ n = 0 ∧ cs = []) ∨ ∃ b off cap, u = .slice (some ⟨b, off, none⟩) n cap ∧ n ≤ cap ∧ cap ≤ maxLen ∧ S b ∧ b < w.heap.size ∧ ∀ k, k < cs.length → w.cell? ⟨b, off + k, none⟩ = cs[k]?
theorem Rd.below {w w' : World} {S : Nat → Prop} {u : Value} {n : Nat} {cs : List Value} (h : Rd w S u n cs) (hb : Below w.heap.size w w') : Rd w' S u n cs := by
  rcases h with h | ⟨b, off, cap, e, h1, h2, h3, h4, h5⟩
  · exact .inl h
  · exact .inr ⟨b, off, cap, e, h1, h2, h3, Nat.lt_of_lt_of_le h4 hb.size, fun k hk => (hb.cell (p := ⟨b, off + k, none⟩) h4).trans (h5 k hk)⟩
theorem Rd.mono {w : World} {S S' : Nat → Prop} {u : Value} {n : Nat} {cs : List Value} (h : Rd w S u n cs) (hs : ∀ k, S k → S' k) : Rd w S' u n cs := by
  rcases h with h | ⟨b, off, cap, e, h1, h2, h3, h4, h5⟩
  · exact .inl h
  · exact .inr ⟨b, off, cap, e, h1, h2, hs b h3, h4, h5⟩
theorem cell_chg {w w' : World} {S : Nat → Prop} {b o : Nat} (hc : Chg S w w') (hb : b < w.heap.size) (hn : ¬ S b) : w'.cell? ⟨b, o, none⟩ = w.cell? ⟨b, o, none⟩ := by
  unfold World.cell?
  simp only [hc.block b hb hn]
theorem Rd.chg {w w' : World} {S S' : Nat → Prop} {u : Value} {n : Nat} {cs : List Value} (h : Rd w S u n cs) (hc : Chg S' w w') (hd : ∀ k, S k → ¬ S' k) : Rd w' S u n cs := by
  rcases h with h | ⟨b, off, cap, e, h1, h2, h3, h4, h5⟩
  · exact .inl h
  · exact .inr ⟨b, off, cap, e, h1, h2, h3, Nat.lt_of_lt_of_le h4 hc.size, fun k hk => (cell_chg hc h4 (hd b h3)).trans (h5 k hk)⟩
theorem Rd.of {w : World} {S : Nat → Prop} {base : Nat} {t : TypeId} {F : Nat} {u : Value} {n : Nat} {cs : List Value} (h : w.ownsRow base t F u n cs) (hS : ∀ k, u.ownBlock = some k → S k) : Rd w S u n cs := by
  have h' := h
  rcases h.2 with ⟨e, h0⟩ | ⟨g, cap, cur, e, _, hg, hn, hm, _, _⟩
  · exact .inl ⟨e, h0, List.length_eq_zero_iff.1 (by have := h.1; rw [h0, Nat.zero_mul] at this; exact this)⟩
  · subst e
    refine .inr ⟨g, 0, cap, rfl, hn, hm, hS g rfl, (World.ownsRow.lt h' g rfl).2, fun k hk => ?_⟩
    rw [Nat.zero_add]
    exact World.ownsRow.cellAt h' k (by rw [← h.1]; exact hk)
theorem Rd.tail {w : World} {S : Nat → Prop} {b off n cap F : Nat} {cs : List Value} (h : Rd w S (.slice (some ⟨b, off, none⟩) (n + 1) cap) (n + 1) cs) : Rd w S (.slice (some ⟨b, off + F, none⟩) n (cap - 1)) n (cs.drop F) := by
  rcases h with ⟨e, _⟩ | ⟨b', off', cap', e, h1, h2, h3, h4, h5⟩
  · cases e
  · injection e with e1 e2 e3
    injection e1 with e1
    injection e1 with e4 e5 e6
    subst e4; subst e5; subst e3
    refine .inr ⟨b, off + F, cap - 1, rfl, by omega, by omega, h3, h4, fun k hk => ?_⟩
    rw [List.length_drop] at hk
    rw [List.getElem?_drop, Nat.add_assoc]
    exact h5 (F + k) (by omega)
theorem wpList_append_rd {P : Program} {w : World} {ops : Array Oper} {rest : List Oper} {o : Oper} {a : Act} {Q : Exit → Act → World → Prop} (hgd : o.guard = none) (s x : Operand) (t : TypeId)
    (ho : o.op = .call { callee := .builtin .append, args := #[s, x], argTypes := #[t, t] })
    (base : Nat) (e : TypeId) (i : TypeInfo) (z : Value) (size bytes : Nat) (ht : P.underlying t = some (.slice e)) (hi : P.info? e = some i) (hz : i.zero = some z)
    (hsize : i.size = size) (hby : i.bytes = bytes) (hzs : z.cells.size = size) (hsz : 0 < size)
    (v : Value) (hs : a.eval s = v) (hown : w.ownsRow base e size v 0 []) (S : Nat → Prop) (m : Nat) (vx : Value) (cs : List Value) (hx : a.eval x = vx) (hvx : Rd w S vx m cs) (hl : cs.length = m * size)
    (h1 : ∀ u ∈ cs, u.oneCell' = true) (h63 : m ≤ maxLen) (hbytes : m * bytes ≤ 140737488355328) (hbase : base ≤ w.heap.size)
    (h : ∀ v' w', w'.ownsRow base e size v' m cs → w.grownBy w' v.ownBlock → wpList P ops Q rest (a.put o.dst v') w') : wpList P ops Q (o :: rest) a w := by
  rcases hvx with ⟨ev, h0, hcs⟩ | ⟨g, off, cap, ev, _, _, _, _, h5⟩
  · subst h0; subst hcs
    rw [ev] at hx
    exact wpList_append_own_none hgd s x t ho base e i size ht hi v 0 [] hs hown hx (h v w hown (World.grownBy.refl w _))
  · rw [ev] at hx
    refine wpList_append_own w hgd s x t ho base e i z size bytes ht hi hz hsize hby hzs hsz v 0 [] hs hown ⟨g, off, none⟩ m cap cs hx hl ?_ h1 (by rw [Nat.zero_add]; exact h63) (by rw [Nat.zero_add]; exact hbytes) hbase ?_
    · intro j u hj
      rw [Addr.add_lit]
      exact (h5 j (List.getElem?_eq_some_iff.1 hj).1).trans hj
    · intro v' w' h2 h3 _
      exact h v' w' (by simpa using h2) h3
def slB : Value → Option Nat
  | .slice (some a) _ _ => some a.block
  | _ => none
structure QOk (w : World) (us : List Value) : Prop where
  ap : ∀ (i j : Nat) (u v : Value) (b : Nat), i < j → us[i]? = some u → us[j]? = some v → slB u = some b → slB v ≠ some b
  frz : ∀ (i : Nat) (u : Value) (b : Nat), us[i]? = some u → slB u = some b → b < w.heap.size ∧ ∀ k, w.frozen? ⟨b, k, none⟩ = false
theorem frz_block {w w' : World} {b k : Nat} (h : w'.heap[b]? = w.heap[b]?) : w'.frozen? ⟨b, k, none⟩ = w.frozen? ⟨b, k, none⟩ := by
  unfold World.frozen?
  simp only [h]
theorem QOk.below {w w' : World} {us : List Value} (h : QOk w us) (hb : Below w.heap.size w w') : QOk w' us :=
  ⟨h.ap, fun i u b h1 h2 => by
    obtain ⟨h3, h4⟩ := h.frz i u b h1 h2
    exact ⟨Nat.lt_of_lt_of_le h3 hb.size, fun k => by rw [frz_block (hb.block b h3)]; exact h4 k⟩⟩
theorem QOk.chg {w w' : World} {us : List Value} {S' : Nat → Prop} (h : QOk w us) (hc : Chg S' w w') (hd : ∀ (i : Nat) (u : Value) (b : Nat), us[i]? = some u → slB u = some b → ¬ S' b) : QOk w' us :=
  ⟨h.ap, fun i u b h1 h2 => by
    obtain ⟨h3, h4⟩ := h.frz i u b h1 h2
    exact ⟨Nat.lt_of_lt_of_le h3 hc.size, fun k => by rw [frz_block (hc.block b h3 (hd i u b h1 h2))]; exact h4 k⟩⟩
theorem Rd.slB {w : World} {S : Nat → Prop} {u : Value} {n : Nat} {cs : List Value} (h : Rd w S u n cs) {b : Nat} (hb : slB u = some b) : S b := by
  rcases h with ⟨e, _⟩ | ⟨b', off, cap, e, h1, h2, h3, h4, h5⟩
  · subst e; cases hb
  · subst e
    obtain rfl : b' = b := Option.some.inj hb
    exact h3
def TodoS (w : World) (S T : Nat → Prop) (v : Value) (ls : List (List O)) : Prop :=
  ∃ us : List Value, HeapS w S [⟨v, 46, 1, ls.length, us⟩] ∧ (∀ j, j < ls.length → ∃ u, us[j]? = some u ∧ Rd w T u (ls.getD j []).length (cellsF opCells (ls.getD j []))) ∧ QOk w us
theorem TodoS.ulen {w : World} {S : Nat → Prop} {v : Value} {n : Nat} {us : List Value} (h : HeapS w S [⟨v, 46, 1, n, us⟩]) : us.length = n := by
  have ho : w.ownsRow 0 46 1 v n us := h.1.own _ List.mem_cons_self
  have := ho.1; omega
theorem TodoS.inT {w : World} {S T : Nat → Prop} {v : Value} {ls : List (List O)} {us : List Value} (h1 : HeapS w S [⟨v, 46, 1, ls.length, us⟩]) (h2 : ∀ j, j < ls.length → ∃ u, us[j]? = some u ∧ Rd w T u (ls.getD j []).length (cellsF opCells (ls.getD j []))) {i : Nat} {u : Value} {b : Nat} (hi : us[i]? = some u) (hb : slB u = some b) : T b := by
  have hl := TodoS.ulen h1
  have hlt : i < ls.length := by rw [← hl]; exact (List.getElem?_eq_some_iff.1 hi).1
  obtain ⟨u', h3, h4⟩ := h2 i hlt
  rw [hi] at h3
  obtain rfl := Option.some.inj h3
  exact h4.slB hb
theorem TodoS.below {w w' : World} {S T : Nat → Prop} {v : Value} {ls : List (List O)} (h : TodoS w S T v ls) (hb : Below w.heap.size w w') : TodoS w' S T v ls := by
  obtain ⟨us, h1, h2, hq⟩ := h
  exact ⟨us, h1.below hb, fun j hj => by obtain ⟨u, h3, h4⟩ := h2 j hj; exact ⟨u, h3, h4.below hb⟩, hq.below hb⟩
theorem TodoS.chg {w w' : World} {S T S' : Nat → Prop} {v : Value} {ls : List (List O)} (h : TodoS w S T v ls) (hc : Chg S' w w') (hd : ∀ k, S k → ¬ S' k) (hd2 : ∀ k, T k → ¬ S' k) : TodoS w' S T v ls := by
  obtain ⟨us, h1, h2, hq⟩ := h
  exact ⟨us, h1.chg hc hd, fun j hj => by obtain ⟨u, h3, h4⟩ := h2 j hj; exact ⟨u, h3, h4.chg hc hd2⟩, hq.chg hc (fun i u b hi hb => hd2 b (TodoS.inT h1 h2 hi hb))⟩
theorem TodoS.at {w : World} {S T : Nat → Prop} {v : Value} {ls : List (List O)} (h : TodoS w S T v ls) (j : Nat) (hj : j < ls.length) :
    ∃ b cap u, v = .slice (some ⟨b, 0, none⟩) ls.length cap ∧ b < w.heap.size ∧ w.cell? ⟨b, j, none⟩ = some u ∧ Rd w T u (ls.getD j []).length (cellsF opCells (ls.getD j [])) := by
  obtain ⟨us, h1, h2, hq⟩ := h
  obtain ⟨u, h3, h4⟩ := h2 j hj
  have ho : w.ownsRow 0 46 1 v ls.length us := h1.1.own _ List.mem_cons_self
  have ho' := ho
  rcases ho.2 with ⟨e, h0⟩ | ⟨g, cap, cur, e, _, hg, hn, hm, _, _⟩
  · omega
  · subst e
    exact ⟨g, cap, u, rfl, (World.ownsRow.lt ho' g rfl).2, (World.ownsRow.cellAt ho' j (by omega)).trans h3, h4⟩
theorem TodoS.slice {w : World} {S T : Nat → Prop} {v : Value} {ls : List (List O)} (h : TodoS w S T v ls) : ∃ A c, v = .slice A ls.length c := by
  obtain ⟨us, h1, h2, hq⟩ := h
  exact Rw.slice (h1.1.own _ List.mem_cons_self)
end Go.Proofs.YtnlepnfdgdbkoaaGreatDoor
namespace Go.Proofs.YtnlepnfdgdbkoaaGreatDoor
open Go.RowKit M
set_option linter.unusedVariables false
set_option linter.unusedSimpArgs false
theorem ownEv_at {w : World} {B X : Nat} {v : Value} {l : List E} (h : OwnY 39 13 evDat w B X v l) (j : Nat) (hj : j < l.length) :
    ∃ b cap vrows, v = .slice (some ⟨b, 0, none⟩) l.length cap ∧ b < w.heap.size ∧ w.rangeAt b (j * 13) (evVals (l.getD j zeroE) vrows).toList ∧ w.ownsRow B 55 10 vrows (l.getD j zeroE).rows.length (cellsR (l.getD j zeroE).rows) := by
  rcases OwnX.shape h with ⟨_, h0⟩ | ⟨g, cap, rfl, _⟩
  · omega
  · obtain ⟨A, cap', e, _, _, h3⟩ := OwnY.arg h evDat_len evDat_wf zeroE
    injection e with e1 e2 e3
    obtain ⟨b, off, ea, hb, hc⟩ := h3 (by omega)
    rw [ea] at e1
    injection e1 with e1
    injection e1 with e4 e5 e6
    subst e4
    subst e5
    obtain ⟨vrows, hr, _⟩ := ev_at (hc j hj)
    rw [Nat.zero_add] at hr
    refine ⟨g, cap, vrows, rfl, hb, hr, ?_⟩
    have hd : (datL evDat l)[j * 13 + 12]? = some (.row 55 10 (l.getD j zeroE).rows.length (cellsR (l.getD j zeroE).rows)) := by
      rw [datL_at evDat_len zeroE l j 12 hj (by decide)]; rfl
    obtain ⟨u, hu, ho⟩ := OwnX.row h (i := j * 13 + 12) (by omega) hd
    have := hr 12 vrows rfl
    rw [this] at hu
    injection hu with hu
    subst hu
    exact ho
theorem ev_one (r : E) (A : Option Addr) (n cap : Nat) : (evVals r (.slice A n cap)).all (·.oneCell') = true := by
  simp [evVals, Value.oneCell']
end Go.Proofs.YtnlepnfdgdbkoaaGreatDoor
namespace Go.Proofs.YtnlepnfdgdbkoaaGreatDoor
open Go.RowKit M
set_option linter.unusedVariables false
set_option linter.unusedSimpArgs false
theorem job_one2 (r : J) (A A' : Option Addr) (n n' c c' : Nat) : (jobVals r (.slice A n c) (.slice A' n' c')).all (·.oneCell') = true := by
  simp [jobVals, Value.oneCell']
end Go.Proofs.YtnlepnfdgdbkoaaGreatDoor
namespace Go.Proofs.YtnlepnfdgdbkoaaGreatDoor
open Go.ChangeShapes Go.WideShapes Go.Deep Go.RowKit M
set_option linter.unusedVariables false
theorem own_ints {w : World} {B : Nat} {v : Value} {zs : List Int} (ho : (⟨v, 3, 1, zs.length, zs.map (Value.int .i64)⟩ : Rw).own w B) : IntsArg w v zs := by
  have h' : w.ownsRow B 3 1 v zs.length (zs.map (Value.int .i64)) := ho
  rcases h'.2 with ⟨rfl, h0⟩ | ⟨g, cap, cur, rfl, hb, hg, hn, hm, hc, ht⟩
  · have e : zs = [] := List.length_eq_zero_iff.1 h0
    subst e; exact IntsArg.nil w
  · refine ⟨_, cap, rfl, hn, hm, fun _ => ⟨g, 0, rfl, (World.ownsRow.lt h' g rfl).2, fun j hj => ?_⟩⟩
    rw [Nat.zero_add, World.ownsRow.cellAt h' j (by omega), List.getElem?_map, List.getElem?_eq_getElem hj, List.getD_eq_getElem?_getD, List.getElem?_eq_getElem hj]
    rfl
section
variable {H : Type} {enc : TypeId × Value → H} {w : World} {base : Nat} {spare : Nat → Bool} {held : Bool} {fuel : Nat} {x : DataW H × List MemPlace} {c : Value}
end
section
variable {H : Type} {enc : TypeId × Value → H} {w : World} {base : Nat} {spare : Nat → Bool} {held : Bool} {r : Reach} {b0 : Nat} {v : Value} {d : DataW H} {p : List MemPlace}
end
theorem Blk.range {w : World} {g : Nat} {t : TypeId} {cs : Array Value} (h : Blk w g t cs) : w.rangeAt g 0 cs.toList := fun j v hv => by
  rw [Nat.zero_add, h.get j]
  rw [Array.getElem?_toList] at hv
  exact hv
end Go.Proofs.YtnlepnfdgdbkoaaGreatDoor
namespace Go.Proofs.YtnlepnfdgdbkoaaGreatDoor
open Go.RowKit M
set_option linter.unusedVariables false
set_option linter.unusedSimpArgs false
set_option maxRecDepth 100000 in
set_option maxHeartbeats 4000000 in
theorem iEqualI_any (w : World) (v u : Value) (xs ys : List Int) (h : IntsArg w v xs) (k : IntsArg w u ys) : Calls Tryz.prog 71 #[v, u] w (Gives (.bool (decide (xs = ys))) w) := by
  obtain ⟨A, cap, rfl, h1, h2, h3⟩ := h
  obtain ⟨A', cap', rfl, k1, k2, k3⟩ := k
  unfold maxLen at h2 k2
  by_cases hl : xs.length = ys.length
  case neg =>
    have HE := Lib.hid (eq_len hl)
    have d : ((xs.length : Int) == (ys.length : Int)) = false := by rw [beq_eq_false_iff_ne]; omega
    generalize xs.length = n at *
    generalize ys.length = m at *
    clear h3 k3
    go_enter Tryz.func71, Tryz.ntmps71
    go_wp2_with fail
    go_ret
    exact ⟨ret_bool HE.out.symm, Below.refl _ _⟩
  have HALL := Lib.hid (fun (q : EqAt 0 xs ys xs.length) => eq_yes hl q)
  rw [← hl] at k1 k3 ⊢
  generalize hn : xs.length = n at *
  clear hn hl
  have H4 := Lib.hid h3
  have K4 := Lib.hid k3
  clear h3 k3
  go_enter Tryz.func71, Tryz.ntmps71
  go_wp2_with fail
  go_loopw [13] (fun i wr => ∃ j : Nat, j ≤ n ∧ i = .int .i64 j ∧ EqAt 0 xs ys j ∧ Below w.heap.size w wr) (fun i _ => n - (intOf i).toNat)
  case atStart => exact ⟨0, Nat.zero_le _, rfl, EqAt.zero _ _ _, Below.refl _ _⟩
  case round =>
    obtain ⟨j, hj, rfl, he, hbl⟩ := hrel
    have HQ := Lib.hid he
    clear he
    by_cases hlt : j < n
    · obtain ⟨b, off, rfl, hb, hc⟩ := H4.out (by omega)
      obtain ⟨b', off', rfl, hb', hc'⟩ := K4.out (by omega)
      have g1 := (hbl.cell (p := ⟨b, off + j, none⟩) hb).trans (hc j hlt)
      have g2 := (hbl.cell (p := ⟨b', off' + j, none⟩) hb').trans (hc' j hlt)
      have HB := Lib.hid hbl
      clear hc hc' hbl
      by_cases hr : xs.getD j 0 = ys.getD j 0
      · have HN := Lib.hid (HQ.out.next hr)
        rw [← hr] at g2
        generalize xs.getD j 0 = z at *
        clear hr
        go_wp2_with fail
        go_quiet (fail)
        go_wp2_with fail
        go_roundw
        case rel => exact ⟨j + 1, by omega, by go_num, HN.out, HB.out.trans ⟨rfl, rfl, rfl, Nat.le_refl _, fun _ _ => rfl⟩⟩
        case measure => simp [intOf]; omega
      · have HN := Lib.hid (show decide (xs = ys) = false from eq_ne hr)
        generalize xs.getD j 0 = z at *
        generalize ys.getD j 0 = y at *
        have t1 : (z != y) = true := by rw [bne_iff_ne]; exact hr
        have t2 : (z == y) = false := by rw [beq_eq_false_iff_ne]; exact hr
        clear hr
        go_wp2_with fail
        go_quiet (fail)
        go_wp2_with fail
        go_ret
        exact ⟨ret_bool HN.out.symm, HB.out.trans ⟨rfl, rfl, rfl, Nat.le_refl _, fun _ _ => rfl⟩⟩
    · have hjn : j = n := by omega
      subst hjn
      have HN := Lib.hid (HALL.out HQ.out)
      have HB := Lib.hid hbl
      clear hbl
      go_wp2_with fail
      go_ret
      exact ⟨ret_bool HN.out.symm, HB.out⟩
end Go.Proofs.YtnlepnfdgdbkoaaGreatDoor
namespace Go.Proofs.YtnlepnfdgdbkoaaGreatDoor
open Go.RowKit M
set_option linter.unusedVariables false
set_option linter.unusedSimpArgs false
theorem job_one (w : World) (r : J) (vk vr : Value) (h : jobIn w r vk vr) : Array.all (jobVals r vk vr) (·.oneCell') = true := by
  obtain ⟨⟨A1, c1, rfl, _⟩, A2, c2, rfl, _⟩ := h
  simp [jobVals, Value.oneCell']
end Go.Proofs.YtnlepnfdgdbkoaaGreatDoor
namespace Go.Proofs.YtnlepnfdgdbkoaaGreatDoor
open Go.RowKit M
set_option linter.unusedVariables false
set_option linter.unusedSimpArgs false
theorem bool_beq (x y : Bool) : (x == y) = decide (x = y) := by cases x <;> cases y <;> rfl
end Go.Proofs.YtnlepnfdgdbkoaaGreatDoor
namespace Go.Proofs.YtnlepnfdgdbkoaaGreatDoor
open Go.RowKit M
set_option linter.unusedVariables false
set_option linter.unusedSimpArgs false
set_option maxRecDepth 100000 in
set_option maxHeartbeats 4000000 in
theorem iSameJob_any (w : World) (a b : J) (vkeys vraw ukeys uraw : Value) (h : jobIn w a vkeys vraw) (k : jobIn w b ukeys uraw) : Calls Tryz.prog 59 #[.agg (jobVals a vkeys vraw), .agg (jobVals b ukeys uraw)] w (Gives (.bool (sameJV a b)) w) := by
  have HE := Lib.hid (show sameJV a b = (decide (a.busy = b.busy) && (decide (a.op = b.op) && (decide (a.serial = b.serial) && (decide (a.pc = b.pc) && (decide (a.k = b.k) && (decide (a.slot = b.slot) && (decide (a.what = b.what) && (decide (a.e = b.e) && (decide (a.stamp = b.stamp) && (decide (a.old = b.old) && (decide (a.flips = b.flips) && (decide (a.steps = b.steps) && (decide (a.code = b.code) && (decide (a.keys = b.keys) && (decide (a.raw = b.raw)))))))))))))))) from rfl)
  have heq := fun W => eql_op W a.op b.op
  have HR0 := Lib.hid (fun W (hb : Below w.heap.size w W) => iEqualI_any W vkeys ukeys a.keys b.keys (h.1.below hb) (k.1.below hb))
  have HR1 := Lib.hid (fun W (hb : Below w.heap.size w W) => iEqualI_any W vraw uraw a.raw b.raw (h.2.below hb) (k.2.below hb))
  generalize sameJV a b = all at *
  obtain ⟨⟨Akeys, ckeys, rfl, _⟩, Araw, craw, rfl, _⟩ := h
  obtain ⟨⟨Akeys', ckeys', rfl, _⟩, Araw', craw', rfl, _⟩ := k
  obtain ⟨busy, ⟨okind, okey, owhat, oval⟩, serial, pc, k, slot, what, e, stamp, old, flips, steps, code, keys, raw⟩ := a
  obtain ⟨busy', ⟨okind', okey', owhat', oval'⟩, serial', pc', k', slot', what', e', stamp', old', flips', steps', code', keys', raw'⟩ := b
  unfold O.v at heq
  unfold jobVals
  simp only at *
  have b0 := bool_beq busy busy'
  have b2 := int_beq2 serial serial'
  have b3 := int_beq2 pc pc'
  have b4 := int_beq2 k k'
  have b5 := int_beq2 slot slot'
  have b6 := int_beq2 what what'
  have b7 := int_beq2 e e'
  have b8 := int_beq2 stamp stamp'
  have b9 := int_beq2 old old'
  have b10 := int_beq2 flips flips'
  have b11 := int_beq2 steps steps'
  have b12 := int_beq2 code code'
  generalize decide (busy = busy') = q0 at *
  generalize decide ((⟨okind, okey, owhat, oval⟩ : O) = ⟨okind', okey', owhat', oval'⟩) = q1 at *
  generalize decide (serial = serial') = q2 at *
  generalize decide (pc = pc') = q3 at *
  generalize decide (k = k') = q4 at *
  generalize decide (slot = slot') = q5 at *
  generalize decide (what = what') = q6 at *
  generalize decide (e = e') = q7 at *
  generalize decide (stamp = stamp') = q8 at *
  generalize decide (old = old') = q9 at *
  generalize decide (flips = flips') = q10 at *
  generalize decide (steps = steps') = q11 at *
  generalize decide (code = code') = q12 at *
  generalize decide (keys = keys') = q13 at *
  generalize decide (raw = raw') = q14 at *
  generalize keys.length = nkeys at *
  generalize keys'.length = nkeys' at *
  generalize raw.length = nraw at *
  generalize raw'.length = nraw' at *
  have HG0 := Lib.hid (show (fun W => Blk W w.heap.size 50 #[.bool busy, .int .i64 okind, .string okey, .int .i64 owhat, .int .i64 oval, .int .i64 serial, .int .i64 pc, .int .i64 k, .int .i64 slot, .int .i64 what, .int .i64 e, .int .i64 stamp, .int .i64 old, .int .i64 flips, .int .i64 steps, .int .i64 code, .slice Akeys nkeys ckeys, .slice Araw nraw craw] ∧ Blk W (w.heap.size + 1) 50 #[.bool busy', .int .i64 okind', .string okey', .int .i64 owhat', .int .i64 oval', .int .i64 serial', .int .i64 pc', .int .i64 k', .int .i64 slot', .int .i64 what', .int .i64 e', .int .i64 stamp', .int .i64 old', .int .i64 flips', .int .i64 steps', .int .i64 code', .slice Akeys' nkeys' ckeys', .slice Araw' nraw' craw'] ∧ Below w.heap.size w W) ((w.alloc (.cells #[.bool busy, .int .i64 okind, .string okey, .int .i64 owhat, .int .i64 oval, .int .i64 serial, .int .i64 pc, .int .i64 k, .int .i64 slot, .int .i64 what, .int .i64 e, .int .i64 stamp, .int .i64 old, .int .i64 flips, .int .i64 steps, .int .i64 code, .slice Akeys nkeys ckeys, .slice Araw nraw craw] 50)).alloc (.cells #[.bool busy', .int .i64 okind', .string okey', .int .i64 owhat', .int .i64 oval', .int .i64 serial', .int .i64 pc', .int .i64 k', .int .i64 slot', .int .i64 what', .int .i64 e', .int .i64 stamp', .int .i64 old', .int .i64 flips', .int .i64 steps', .int .i64 code', .slice Akeys' nkeys' ckeys', .slice Araw' nraw' craw'] 50)) from ⟨(Blk.new w _ _ _ rfl).alloc _, Blk.new _ _ _ _ (by simp [go_sem]), ((Below.refl _ _).alloc (Nat.le_refl _) _).alloc (by simp [go_sem]) _⟩)
  go_enter Tryz.func59, Tryz.ntmps59
  go_upto_region 1 with fail
  refine wp_gen (fun W => Blk W w.heap.size 50 #[.bool busy, .int .i64 okind, .string okey, .int .i64 owhat, .int .i64 oval, .int .i64 serial, .int .i64 pc, .int .i64 k, .int .i64 slot, .int .i64 what, .int .i64 e, .int .i64 stamp, .int .i64 old, .int .i64 flips, .int .i64 steps, .int .i64 code, .slice Akeys nkeys ckeys, .slice Araw nraw craw] ∧ Blk W (w.heap.size + 1) 50 #[.bool busy', .int .i64 okind', .string okey', .int .i64 owhat', .int .i64 oval', .int .i64 serial', .int .i64 pc', .int .i64 k', .int .i64 slot', .int .i64 what', .int .i64 e', .int .i64 stamp', .int .i64 old', .int .i64 flips', .int .i64 steps', .int .i64 code', .slice Akeys' nkeys' ckeys', .slice Araw' nraw' craw'] ∧ Below w.heap.size w W) HG0.out ?_
  rintro W ⟨h0, h1, hb⟩
  clear HG0
  refine wp_region_lit ?_
  refine at_gen (n := 108) (A := 2) (B := 3) (pA := .pointer (some ⟨w.heap.size, 0, none⟩)) (pB := .pointer (some ⟨w.heap.size + 1, 0, none⟩)) (m := 4) (b := false) ⟨rfl, rfl, rfl, rfl, rfl⟩ ?_
  intro a0 hAt
  have p0 := h0.get 0
  have r0 := h1.get 0
  simp at p0 r0
  refine link0 (v1 := .pointer (some ⟨w.heap.size, 0, none⟩)) (x := .bool busy) (v2 := .pointer (some ⟨w.heap.size + 1, 0, none⟩)) (y := .bool busy') (q := q0) rfl rfl rfl rfl rfl rfl rfl rfl rfl rfl rfl rfl (by decide) (by decide) (by decide) (fun a h => by rw [ev_tmp] at h; go_simp) (fun a h => by rw [ev_tmp] at h; go_simp) (fun a h => by rw [ev_tmp] at h; go_simp) (fun a h => by rw [ev_tmp] at h; go_simp) (fun a h h' => by rw [ev_tmp] at h h'; go_simp) (fun a b h => by rw [ev_tmp] at h; go_simp) hAt ?_
  clear hAt p0 r0
  intro a0 hAt
  have p0 := h0.get 1
  have r0 := h1.get 1
  have p1 := h0.get 2
  have r1 := h1.get 2
  have p2 := h0.get 3
  have r2 := h1.get 3
  have p3 := h0.get 4
  have r3 := h1.get 4
  simp at p0 r0 p1 r1 p2 r2 p3 r3
  refine link (v1 := .pointer (some ⟨w.heap.size, 1, none⟩)) (x := .agg #[.int .i64 okind, .string okey, .int .i64 owhat, .int .i64 oval]) (v2 := .pointer (some ⟨w.heap.size + 1, 1, none⟩)) (y := .agg #[.int .i64 okind', .string okey', .int .i64 owhat', .int .i64 oval']) (q := q1) rfl rfl rfl rfl rfl rfl rfl rfl rfl rfl rfl rfl rfl (by decide) (by decide) (by decide) (fun a h => by rw [ev_tmp] at h; go_simp) (fun a h => by rw [ev_tmp] at h; go_simp) (fun a h => by rw [ev_tmp] at h; go_simp) (fun a h => by rw [ev_tmp] at h; go_simp) (fun a h h' => by rw [ev_tmp] at h h'; go_simp) (fun a c b h h' => by rw [ev_tmp] at h h'; cases b <;> go_simp) hAt ?_
  clear hAt p0 r0 p1 r1 p2 r2 p3 r3
  intro a0 hAt
  refine linkM rfl rfl (by decide) (fun a b h => by rw [ev_tmp] at h; go_simp) hAt ?_
  clear hAt
  intro a0 hAt
  have p0 := h0.get 5
  have r0 := h1.get 5
  simp at p0 r0
  refine link (v1 := .pointer (some ⟨w.heap.size, 5, none⟩)) (x := .int .i64 serial) (v2 := .pointer (some ⟨w.heap.size + 1, 5, none⟩)) (y := .int .i64 serial') (q := q2) rfl rfl rfl rfl rfl rfl rfl rfl rfl rfl rfl rfl rfl (by decide) (by decide) (by decide) (fun a h => by rw [ev_tmp] at h; go_simp) (fun a h => by rw [ev_tmp] at h; go_simp) (fun a h => by rw [ev_tmp] at h; go_simp) (fun a h => by rw [ev_tmp] at h; go_simp) (fun a h h' => by rw [ev_tmp] at h h'; go_simp) (fun a c b h h' => by rw [ev_tmp] at h h'; cases b <;> go_simp) hAt ?_
  clear hAt p0 r0
  intro a0 hAt
  refine linkM rfl rfl (by decide) (fun a b h => by rw [ev_tmp] at h; go_simp) hAt ?_
  clear hAt
  intro a0 hAt
  have p0 := h0.get 6
  have r0 := h1.get 6
  simp at p0 r0
  refine link (v1 := .pointer (some ⟨w.heap.size, 6, none⟩)) (x := .int .i64 pc) (v2 := .pointer (some ⟨w.heap.size + 1, 6, none⟩)) (y := .int .i64 pc') (q := q3) rfl rfl rfl rfl rfl rfl rfl rfl rfl rfl rfl rfl rfl (by decide) (by decide) (by decide) (fun a h => by rw [ev_tmp] at h; go_simp) (fun a h => by rw [ev_tmp] at h; go_simp) (fun a h => by rw [ev_tmp] at h; go_simp) (fun a h => by rw [ev_tmp] at h; go_simp) (fun a h h' => by rw [ev_tmp] at h h'; go_simp) (fun a c b h h' => by rw [ev_tmp] at h h'; cases b <;> go_simp) hAt ?_
  clear hAt p0 r0
  intro a0 hAt
  refine linkM rfl rfl (by decide) (fun a b h => by rw [ev_tmp] at h; go_simp) hAt ?_
  clear hAt
  intro a0 hAt
  have p0 := h0.get 7
  have r0 := h1.get 7
  simp at p0 r0
  refine link (v1 := .pointer (some ⟨w.heap.size, 7, none⟩)) (x := .int .i64 k) (v2 := .pointer (some ⟨w.heap.size + 1, 7, none⟩)) (y := .int .i64 k') (q := q4) rfl rfl rfl rfl rfl rfl rfl rfl rfl rfl rfl rfl rfl (by decide) (by decide) (by decide) (fun a h => by rw [ev_tmp] at h; go_simp) (fun a h => by rw [ev_tmp] at h; go_simp) (fun a h => by rw [ev_tmp] at h; go_simp) (fun a h => by rw [ev_tmp] at h; go_simp) (fun a h h' => by rw [ev_tmp] at h h'; go_simp) (fun a c b h h' => by rw [ev_tmp] at h h'; cases b <;> go_simp) hAt ?_
  clear hAt p0 r0
  intro a0 hAt
  refine linkM rfl rfl (by decide) (fun a b h => by rw [ev_tmp] at h; go_simp) hAt ?_
  clear hAt
  intro a0 hAt
  have p0 := h0.get 8
  have r0 := h1.get 8
  simp at p0 r0
  refine link (v1 := .pointer (some ⟨w.heap.size, 8, none⟩)) (x := .int .i64 slot) (v2 := .pointer (some ⟨w.heap.size + 1, 8, none⟩)) (y := .int .i64 slot') (q := q5) rfl rfl rfl rfl rfl rfl rfl rfl rfl rfl rfl rfl rfl (by decide) (by decide) (by decide) (fun a h => by rw [ev_tmp] at h; go_simp) (fun a h => by rw [ev_tmp] at h; go_simp) (fun a h => by rw [ev_tmp] at h; go_simp) (fun a h => by rw [ev_tmp] at h; go_simp) (fun a h h' => by rw [ev_tmp] at h h'; go_simp) (fun a c b h h' => by rw [ev_tmp] at h h'; cases b <;> go_simp) hAt ?_
  clear hAt p0 r0
  intro a0 hAt
  refine linkM rfl rfl (by decide) (fun a b h => by rw [ev_tmp] at h; go_simp) hAt ?_
  clear hAt
  intro a0 hAt
  have p0 := h0.get 9
  have r0 := h1.get 9
  simp at p0 r0
  refine link (v1 := .pointer (some ⟨w.heap.size, 9, none⟩)) (x := .int .i64 what) (v2 := .pointer (some ⟨w.heap.size + 1, 9, none⟩)) (y := .int .i64 what') (q := q6) rfl rfl rfl rfl rfl rfl rfl rfl rfl rfl rfl rfl rfl (by decide) (by decide) (by decide) (fun a h => by rw [ev_tmp] at h; go_simp) (fun a h => by rw [ev_tmp] at h; go_simp) (fun a h => by rw [ev_tmp] at h; go_simp) (fun a h => by rw [ev_tmp] at h; go_simp) (fun a h h' => by rw [ev_tmp] at h h'; go_simp) (fun a c b h h' => by rw [ev_tmp] at h h'; cases b <;> go_simp) hAt ?_
  clear hAt p0 r0
  intro a0 hAt
  refine linkM rfl rfl (by decide) (fun a b h => by rw [ev_tmp] at h; go_simp) hAt ?_
  clear hAt
  intro a0 hAt
  have p0 := h0.get 10
  have r0 := h1.get 10
  simp at p0 r0
  refine link (v1 := .pointer (some ⟨w.heap.size, 10, none⟩)) (x := .int .i64 e) (v2 := .pointer (some ⟨w.heap.size + 1, 10, none⟩)) (y := .int .i64 e') (q := q7) rfl rfl rfl rfl rfl rfl rfl rfl rfl rfl rfl rfl rfl (by decide) (by decide) (by decide) (fun a h => by rw [ev_tmp] at h; go_simp) (fun a h => by rw [ev_tmp] at h; go_simp) (fun a h => by rw [ev_tmp] at h; go_simp) (fun a h => by rw [ev_tmp] at h; go_simp) (fun a h h' => by rw [ev_tmp] at h h'; go_simp) (fun a c b h h' => by rw [ev_tmp] at h h'; cases b <;> go_simp) hAt ?_
  clear hAt p0 r0
  intro a0 hAt
  refine linkM rfl rfl (by decide) (fun a b h => by rw [ev_tmp] at h; go_simp) hAt ?_
  clear hAt
  intro a0 hAt
  have p0 := h0.get 11
  have r0 := h1.get 11
  simp at p0 r0
  refine link (v1 := .pointer (some ⟨w.heap.size, 11, none⟩)) (x := .int .i64 stamp) (v2 := .pointer (some ⟨w.heap.size + 1, 11, none⟩)) (y := .int .i64 stamp') (q := q8) rfl rfl rfl rfl rfl rfl rfl rfl rfl rfl rfl rfl rfl (by decide) (by decide) (by decide) (fun a h => by rw [ev_tmp] at h; go_simp) (fun a h => by rw [ev_tmp] at h; go_simp) (fun a h => by rw [ev_tmp] at h; go_simp) (fun a h => by rw [ev_tmp] at h; go_simp) (fun a h h' => by rw [ev_tmp] at h h'; go_simp) (fun a c b h h' => by rw [ev_tmp] at h h'; cases b <;> go_simp) hAt ?_
  clear hAt p0 r0
  intro a0 hAt
  refine linkM rfl rfl (by decide) (fun a b h => by rw [ev_tmp] at h; go_simp) hAt ?_
  clear hAt
  intro a0 hAt
  have p0 := h0.get 12
  have r0 := h1.get 12
  simp at p0 r0
  refine link (v1 := .pointer (some ⟨w.heap.size, 12, none⟩)) (x := .int .i64 old) (v2 := .pointer (some ⟨w.heap.size + 1, 12, none⟩)) (y := .int .i64 old') (q := q9) rfl rfl rfl rfl rfl rfl rfl rfl rfl rfl rfl rfl rfl (by decide) (by decide) (by decide) (fun a h => by rw [ev_tmp] at h; go_simp) (fun a h => by rw [ev_tmp] at h; go_simp) (fun a h => by rw [ev_tmp] at h; go_simp) (fun a h => by rw [ev_tmp] at h; go_simp) (fun a h h' => by rw [ev_tmp] at h h'; go_simp) (fun a c b h h' => by rw [ev_tmp] at h h'; cases b <;> go_simp) hAt ?_
  clear hAt p0 r0
  intro a0 hAt
  refine linkM rfl rfl (by decide) (fun a b h => by rw [ev_tmp] at h; go_simp) hAt ?_
  clear hAt
  intro a0 hAt
  have p0 := h0.get 13
  have r0 := h1.get 13
  simp at p0 r0
  refine link (v1 := .pointer (some ⟨w.heap.size, 13, none⟩)) (x := .int .i64 flips) (v2 := .pointer (some ⟨w.heap.size + 1, 13, none⟩)) (y := .int .i64 flips') (q := q10) rfl rfl rfl rfl rfl rfl rfl rfl rfl rfl rfl rfl rfl (by decide) (by decide) (by decide) (fun a h => by rw [ev_tmp] at h; go_simp) (fun a h => by rw [ev_tmp] at h; go_simp) (fun a h => by rw [ev_tmp] at h; go_simp) (fun a h => by rw [ev_tmp] at h; go_simp) (fun a h h' => by rw [ev_tmp] at h h'; go_simp) (fun a c b h h' => by rw [ev_tmp] at h h'; cases b <;> go_simp) hAt ?_
  clear hAt p0 r0
  intro a0 hAt
  refine linkM rfl rfl (by decide) (fun a b h => by rw [ev_tmp] at h; go_simp) hAt ?_
  clear hAt
  intro a0 hAt
  have p0 := h0.get 14
  have r0 := h1.get 14
  simp at p0 r0
  refine link (v1 := .pointer (some ⟨w.heap.size, 14, none⟩)) (x := .int .i64 steps) (v2 := .pointer (some ⟨w.heap.size + 1, 14, none⟩)) (y := .int .i64 steps') (q := q11) rfl rfl rfl rfl rfl rfl rfl rfl rfl rfl rfl rfl rfl (by decide) (by decide) (by decide) (fun a h => by rw [ev_tmp] at h; go_simp) (fun a h => by rw [ev_tmp] at h; go_simp) (fun a h => by rw [ev_tmp] at h; go_simp) (fun a h => by rw [ev_tmp] at h; go_simp) (fun a h h' => by rw [ev_tmp] at h h'; go_simp) (fun a c b h h' => by rw [ev_tmp] at h h'; cases b <;> go_simp) hAt ?_
  clear hAt p0 r0
  intro a0 hAt
  refine linkM rfl rfl (by decide) (fun a b h => by rw [ev_tmp] at h; go_simp) hAt ?_
  clear hAt
  intro a0 hAt
  have p0 := h0.get 15
  have r0 := h1.get 15
  simp at p0 r0
  refine link (v1 := .pointer (some ⟨w.heap.size, 15, none⟩)) (x := .int .i64 code) (v2 := .pointer (some ⟨w.heap.size + 1, 15, none⟩)) (y := .int .i64 code') (q := q12) rfl rfl rfl rfl rfl rfl rfl rfl rfl rfl rfl rfl rfl (by decide) (by decide) (by decide) (fun a h => by rw [ev_tmp] at h; go_simp) (fun a h => by rw [ev_tmp] at h; go_simp) (fun a h => by rw [ev_tmp] at h; go_simp) (fun a h => by rw [ev_tmp] at h; go_simp) (fun a h h' => by rw [ev_tmp] at h h'; go_simp) (fun a c b h h' => by rw [ev_tmp] at h h'; cases b <;> go_simp) hAt ?_
  clear hAt p0 r0
  intro a0 hAt
  refine linkM rfl rfl (by decide) (fun a b h => by rw [ev_tmp] at h; go_simp) hAt ?_
  clear hAt
  intro a0 hAt
  have p0 := h0.get 16
  have r0 := h1.get 16
  simp at p0 r0
  have HRR := HR0.out _ hb
  refine linkC (v1 := .pointer (some ⟨w.heap.size, 16, none⟩)) (x := .slice Akeys nkeys ckeys) (v2 := .pointer (some ⟨w.heap.size + 1, 16, none⟩)) (y := .slice Akeys' nkeys' ckeys') (q := q13) rfl rfl rfl rfl rfl rfl rfl rfl rfl rfl rfl rfl rfl (by decide) (by decide) (by decide) (fun a h => by rw [ev_tmp] at h; go_simp) (fun a h => by rw [ev_tmp] at h; go_simp) (fun a h => by rw [ev_tmp] at h; go_simp) (fun a h => by rw [ev_tmp] at h; go_simp) (fun a h h' => by rw [ev_tmp] at h h'; go_simp) HRR (fun a w c b h h' => by rw [ev_tmp] at h h'; cases b <;> go_simp) hAt ?_
  clear hAt p0 r0 HRR
  intro a0 W' hAt hb'
  replace h0 := h0.below hb'
  replace h1 := h1.below hb'
  replace hb := hb.trans (hb'.mono hb.size)
  clear hb'
  refine linkM rfl rfl (by decide) (fun a b h => by rw [ev_tmp] at h; go_simp) hAt ?_
  clear hAt
  intro a0 hAt
  have p0 := h0.get 17
  have r0 := h1.get 17
  simp at p0 r0
  have HRR := HR1.out _ hb
  refine linkC (v1 := .pointer (some ⟨w.heap.size, 17, none⟩)) (x := .slice Araw nraw craw) (v2 := .pointer (some ⟨w.heap.size + 1, 17, none⟩)) (y := .slice Araw' nraw' craw') (q := q14) rfl rfl rfl rfl rfl rfl rfl rfl rfl rfl rfl rfl rfl (by decide) (by decide) (by decide) (fun a h => by rw [ev_tmp] at h; go_simp) (fun a h => by rw [ev_tmp] at h; go_simp) (fun a h => by rw [ev_tmp] at h; go_simp) (fun a h => by rw [ev_tmp] at h; go_simp) (fun a h h' => by rw [ev_tmp] at h h'; go_simp) HRR (fun a w c b h h' => by rw [ev_tmp] at h h'; cases b <;> go_simp) hAt ?_
  clear hAt p0 r0 HRR
  intro a0 W' hAt hb'
  replace h0 := h0.below hb'
  replace h1 := h1.below hb'
  replace hb := hb.trans (hb'.mono hb.size)
  clear hb'
  refine linkM rfl rfl (by decide) (fun a b h => by rw [ev_tmp] at h; go_simp) hAt ?_
  clear hAt
  intro a0 hAt
  refine wpList_nil ?_
  simp only [Exit.then]
  apply_assumption
  refine wp_ret ?_
  refine bodyPost_ret (results_tmp rfl _ _ _) hAt.df ⟨?_, hb⟩
  show Ending.returned (a0.eval (.tmp 4)) = _
  rw [hAt.bool, HE.out]
  simp only [Bool.and_assoc]
end Go.Proofs.YtnlepnfdgdbkoaaGreatDoor
namespace Go.Proofs.YtnlepnfdgdbkoaaGreatDoor
open Go.RowKit M
set_option linter.unusedVariables false
set_option linter.unusedSimpArgs false
end Go.Proofs.YtnlepnfdgdbkoaaGreatDoor
namespace Go.Proofs.YtnlepnfdgdbkoaaGreatDoor
open Go.RowKit M
set_option linter.unusedVariables false
set_option linter.unusedSimpArgs false
set_option maxRecDepth 100000 in
set_option maxHeartbeats 4000000 in
theorem iQueueOk_any (w : World) (v : Value) (q : List O) (t : Nat) (h : RecsArg 4 opCells zeroO w v q) (hf : FitOs q) : Calls Tryz.prog 37 #[.agg #[v], .int .i64 t] w (Gives (.bool (queueOkV t q)) w) := by
  obtain ⟨A, cap, rfl, h1, h2, h3⟩ := h
  unfold maxLen at h2
  have HFQ := Lib.hid (show ∀ i, i < q.length → (q.getD i zeroO).Fit from hf)
  have HQN := Lib.hid (fun k => queue_no (t := t) (q := q) (k := k))
  have HQA := Lib.hid (queue_all (t := t) (q := q))
  have HQL := Lib.hid (queue_long (t := t) (q := q))
  have H4 := Lib.hid h3
  clear h3 hf
  generalize hm : q.length = m at *
  clear hm
  by_cases hm10 : 10 < m
  · have HE := Lib.hid (HQL.out hm10)
    have hd : (10 : Int) < (m : Int) := by omega
    clear HQL HQA HQN HFQ
    go_enter Tryz.func37, Tryz.ntmps37
    go_wp2_with fail
    go_ret
    exact ⟨ret_bl HE.out.symm, below_one _ _⟩
  · have hd : ¬ (10 : Int) < (m : Int) := by omega
    clear HQL
    go_enter Tryz.func37, Tryz.ntmps37
    go_wp2_with fail
    go_loopw [14] (fun i wr => ∃ k : Nat, k ≤ m ∧ i = .int .i64 k ∧ QueueTo t q k ∧ Below w.heap.size w wr) (fun i _ => m - (intOf i).toNat)
    case atStart => exact ⟨0, Nat.zero_le _, rfl, fun j hj => absurd hj (Nat.not_lt_zero _), below_one _ _⟩
    case round =>
      obtain ⟨k, hk, rfl, hqt, hbl⟩ := hrel
      have HQT := Lib.hid hqt
      clear hqt
      by_cases hkm : k < m
      · obtain ⟨b2, off2, rfl, hb2, hc2⟩ := H4.out (by omega)
        obtain ⟨c20, c21, c22, c23⟩ := atOp ((hc2 k hkm).below hb2 hbl)
        have HOP := fun W => Lib.hid (iOpOk_any W (q.getD k zeroO) (HFQ.out k hkm))
        have HMY := fun W => Lib.hid (iMayRun_any (t : Int) (q.getD k zeroO).kind W)
        have HIY := Lib.hid (fun (h : opOkV (q.getD k zeroO) = true) => opIn_ok (t := t) h)
        have HIN := Lib.hid (fun (h : opInV t (q.getD k zeroO) = false) => HQN.out k hkm h)
        have HIO := Lib.hid (fun (h : opOkV (q.getD k zeroO) = false) => opIn_no (t := t) h)
        have HQX := Lib.hid (fun (h : opInV t (q.getD k zeroO) = true) => (show QueueTo t q (k + 1) from fun i hi => by
          by_cases e : i = k
          · subst e; exact h
          · exact HQT.out i (by omega)))
        have hkz : (k : Int) < (m : Int) := by omega
        have HB := Lib.hid hbl
        clear hc2 hbl HQN HQA HFQ
        generalize q.getD k zeroO = o at *
        obtain ⟨kind, key, what, val⟩ := o
        unfold O.v at HOP
        simp only at *
        rw [show decide ((t : Int) = 3) = decide (t = 3) by congr 1; simp only [eq_iff_iff]; omega] at HMY
        generalize (decide (kind = 3) == decide (t = 3)) = my at *
        cases hok : opOkV ⟨kind, key, what, val⟩ with
        | false =>
          rw [hok] at HOP
          have HE := Lib.hid (HIN.out (HIO.out hok))
          clear hok HIY HIN HIO HQX HMY
          go_wp2_with fail
          refine (HOP _).out.mono ?_
          rintro e w2 ⟨rfl, hb5⟩
          have HB2 := Lib.hid (HB.out.trans (((Below.refl _ _).alloc (Nat.le_refl _) (.cells #[.int .i64 kind, .string key, .int .i64 what, .int .i64 val] 36)).trans (hb5.mono (by simp [go_sem])) |>.mono HB.out.size))
          clear hb5 HB
          go_wp2_with fail
          go_ret
          exact ⟨ret_bl HE.out.symm, HB2.out⟩
        | true =>
          rw [hok] at HOP
          have hoi := HIY.out hok
          clear hok HIY HIO
          go_wp2_with fail
          refine (HOP _).out.mono ?_
          rintro e w2 ⟨rfl, hb5⟩
          have y0 : w2.cell? ⟨wr.heap.size, 0, none⟩ = some (.int .i64 kind) := (hb5.cell (p := ⟨wr.heap.size, 0, none⟩) (by simp [go_sem])).trans (by simp [go_sem])
          have HB2 := Lib.hid (HB.out.trans (((Below.refl _ _).alloc (Nat.le_refl _) (.cells #[.int .i64 kind, .string key, .int .i64 what, .int .i64 val] 36)).trans (hb5.mono (by simp [go_sem])) |>.mono HB.out.size))
          clear hb5 HB
          cases my with
          | true =>
            have HX := Lib.hid (HQX.out hoi)
            clear hoi HQX HIN
            go_wp2_with (go_at_call 57; refine (HMY _).out.mono ?_; rintro e w' ⟨rfl, rfl⟩)
            go_roundw
            case rel => exact ⟨k + 1, by omega, by go_num, HX.out, HB2.out⟩
            case measure => simp [intOf]; omega
          | false =>
            have HE := Lib.hid (HIN.out hoi)
            clear hoi HQX HIN
            go_wp2_with (go_at_call 57; refine (HMY _).out.mono ?_; rintro e w' ⟨rfl, rfl⟩)
            go_ret
            exact ⟨ret_bl HE.out.symm, HB2.out⟩
      · have hkm2 : k = m := by omega
        subst hkm2
        have HX := Lib.hid (HQA.out (by omega) HQT.out)
        have HB := Lib.hid hbl
        have hkz : ¬ (k : Int) < (k : Int) := by omega
        clear hbl
        go_wp2_with fail
        go_ret
        exact ⟨ret_bl HX.out.symm, HB.out⟩
set_option maxRecDepth 100000 in
set_option maxHeartbeats 4000000 in
theorem iTodoOk_any (w : World) (v : Value) (ls : List (List O)) (h : ArgQ w v ls) (hf : FitQ ls) : Calls Tryz.prog 24 #[v] w (Gives (.bool (todoOkV ls)) w) := by
  obtain ⟨A, cap, rfl, h1, h2, h3⟩ := h
  unfold maxLen at h2
  have HNO := Lib.hid (fun t => todo_no (ls := ls) (t := t))
  have HALL := Lib.hid (todo_all (ls := ls))
  have HLEN := Lib.hid (fun h => todo_len (ls := ls) h)
  have HF := Lib.hid (show ∀ i, i < ls.length → FitOs (ls.getD i []) from hf)
  have H3 := Lib.hid h3
  clear hf h3
  generalize hn : ls.length = n at *
  clear hn
  by_cases hn4 : n = 4
  · have t4 : ((n : Int) != 4) = false := by rw [bne_eq_false_iff_eq]; omega
    have HN4 := Lib.hid hn4
    clear hn4 HLEN
    go_enter Tryz.func24, Tryz.ntmps24
    go_wp2_with fail
    go_loopw [10] (fun i wr => ∃ t : Nat, t ≤ n ∧ i = .int .i64 t ∧ TodoTo ls t ∧ Below w.heap.size w wr) (fun i _ => n - (intOf i).toNat)
    case atStart => exact ⟨0, Nat.zero_le _, rfl, fun j hj => absurd hj (Nat.not_lt_zero _), Below.refl _ _⟩
    case round =>
      obtain ⟨t, ht, rfl, hto, hbl⟩ := hrel
      have HTO := Lib.hid hto
      clear hto
      by_cases hlt : t < n
      · obtain ⟨b, off, rfl, hb, hc⟩ := H3.out (by omega)
        obtain ⟨u, hu, hq⟩ := hc t hlt
        have HNT := Lib.hid (HNO.out t hlt)
        have HFQ := HF.out t hlt
        have HNX := Lib.hid (fun (q : queueOkV t (ls.getD t []) = true) => (show TodoTo ls (t + 1) from fun i hi => by
          by_cases e : i = t
          · subst e; exact q
          · exact HTO.out i (by omega)))
        have hltz : (t : Int) < (n : Int) := by omega
        have c1 := (hbl.cell (p := ⟨b, off + t, none⟩) hb).trans hu
        have HQO := Lib.hid (fun W (hb : Below w.heap.size w W) => iQueueOk_any W u (ls.getD t []) t (hq.below hb) HFQ)
        have HB := Lib.hid hbl
        obtain ⟨A2, cap2, rfl, _⟩ := hq
        clear hc hu hbl HNO HF HFQ
        generalize queueOkV t (ls.getD t []) = qo at *
        generalize (ls.getD t []).length = m at *
        go_wp2_with fail
        refine (HQO.out _ (HB.out.alloc HB.out.size (.cells #[.slice A2 m cap2] 46))).mono ?_
        rintro e w2 ⟨rfl, hb5⟩
        have HB2 := Lib.hid ((HB.out.alloc HB.out.size (.cells #[.slice A2 m cap2] 46)).trans (hb5.mono (HB.out.alloc HB.out.size (.cells #[.slice A2 m cap2] 46)).size))
        clear hb5 HB HQO
        cases qo with
        | true =>
          have HX := Lib.hid (HNX.out rfl)
          clear HNX HNT
          go_wp2_with fail
          go_roundw
          case rel => exact ⟨t + 1, by omega, by go_num, HX.out, HB2.out⟩
          case measure => simp [intOf]; omega
        | false =>
          have HE := Lib.hid (HNT.out rfl)
          clear HNX HNT
          go_wp2_with fail
          go_ret
          exact ⟨ret_bl HE.out.symm, HB2.out⟩
      · have htn : t = n := by omega
        subst htn
        have HE := Lib.hid ((HALL.out HTO.out).trans (decide_eq_true HN4.out))
        have HB := Lib.hid hbl
        have hltz : ¬ (t : Int) < (t : Int) := by omega
        clear hbl
        go_wp2_with fail
        go_ret
        exact ⟨ret_bl HE.out.symm, HB.out⟩
  · have HE := Lib.hid (HLEN.out hn4)
    have t4 : ((n : Int) != 4) = true := by rw [bne_iff_ne]; omega
    clear HALL HNO HF hn4
    go_enter Tryz.func24, Tryz.ntmps24
    go_wp2_with fail
    go_ret
    exact ⟨ret_bl HE.out.symm, Below.refl _ _⟩
end Go.Proofs.YtnlepnfdgdbkoaaGreatDoor
namespace Go.Proofs.YtnlepnfdgdbkoaaGreatDoor
open Go.RowKit M
set_option linter.unusedVariables false
set_option linter.unusedSimpArgs false
theorem own_below {w w' : World} {B : Nat} {t : TypeId} {F n : Nat} {v : Value} {cs : List Value} (h : w.ownsRow B t F v n cs) (hb : Below w.heap.size w w') : w'.ownsRow B t F v n cs :=
  World.ownsRow.kept h (row := none) ⟨hb.os, hb.tape, hb.output, hb.size, fun i hi _ => hb.block i hi⟩ (by cases v.ownBlock <;> simp)
def MadeRow (t : TypeId) (F : Nat) (w : World) (m : Nat) (cs : List Value) (e : Ending) (w' : World) : Prop := ∃ v, e = .returned v ∧ w'.ownsRow w.heap.size t F v m cs ∧ Below w.heap.size w w'
theorem Rd.shape {w : World} {S : Nat → Prop} {u : Value} {n : Nat} {cs : List Value} (h : Rd w S u n cs) : ∃ A cap, u = .slice A n cap := by
  rcases h with ⟨e, h0, _⟩ | ⟨b, off, cap, e, _⟩
  · subst h0; exact ⟨none, 0, e⟩
  · exact ⟨_, cap, e⟩
set_option maxRecDepth 100000 in
set_option maxHeartbeats 4000000 in
theorem iClRow_rd (w : World) (S : Nat → Prop) (v : Value) (m : Nat) (cs : List Value) (h : Rd w S v m cs) (hl : m ≤ 1048576) (hc : cs.length = m * 10) (h1 : ∀ u ∈ cs, u.oneCell' = true) : Calls Tryz.prog 42 #[v] w (MadeRow 55 10 w m cs) := by
  obtain ⟨i0, hi, hz0, hz1, hz2⟩ := info_parts info_row
  have h' := h
  rcases h with ⟨rfl, rfl, rfl⟩ | ⟨b, off, cap, rfl, hcn, hcm, hS, hb, hcc⟩
  · have hnil : ∀ (w : World), (binOp .eql 37 (.slice none 0 0) (.slice none 0 0)).run Tryz.prog w = .ok (.bool true) w := fun w => Lib.run_eql_slice_nil w _ _ none 0 0 0 0 Tryz.underlying37
    clear h' hl hi hz0 hz1 hz2 hc h1
    go_enter Tryz.func42, Tryz.ntmps42
    go_wp2_with fail
    go_ret
    exact ⟨_, rfl, ⟨rfl, .inl ⟨rfl, rfl⟩⟩, Below.refl _ _⟩
  · have HO := Lib.hid (h'.below (below_oneL w (.cells #[] 55)))
    have hnil : ∀ (w : World), (binOp .eql 37 (.slice (some ⟨b, off, none⟩) m cap) (.slice none 0 0)).run Tryz.prog w = .ok (.bool false) w := fun w => Lib.run_eql_slice_nil w _ _ (some ⟨b, off, none⟩) m cap 0 0 Tryz.underlying37
    have HC := Lib.hid hc
    clear h' hS hb hcc hc
    go_enter Tryz.func42, Tryz.ntmps42
    go_wp2_with (at_builtin; refine wpList_append_rd rfl _ _ 37 rfl w.heap.size 55 i0 zeroR.v 10 88 Tryz.underlying37 hi hz0 hz1 hz2 rfl (by decide) _ rfl (World.ownsRow_made w #[] 0 (Nat.le_refl _) (Nat.zero_le _) rfl) S m _ cs rfl HO.out ?qc1 ?qc2 ?qc3 ?qc4 ?qc5 ?_)
    case qc1 => exact HC.out
    case qc2 => exact h1
    case qc3 => unfold maxLen; omega
    case qc4 => omega
    case qc5 => simp
    intro v' w1 hown hgrow
    have HV := Lib.hid hown
    have HG := Lib.hid hgrow
    clear hown hgrow hnil hi hz0 hz1 hz2
    go_wp2
    go_ret
    have hb : Below w.heap.size w w1 := ((Below.refl _ w).alloc (Nat.le_refl _) _).grown HG.out (by simp) (by intro k hk; simp [Value.ownBlock] at hk; omega)
    exact ⟨v', rfl, HV.out, hb⟩
end Go.Proofs.YtnlepnfdgdbkoaaGreatDoor
namespace Go.Proofs.YtnlepnfdgdbkoaaGreatDoor
open Go.RowKit M
set_option linter.unusedVariables false
set_option linter.unusedSimpArgs false
section
variable {t : TypeId} {F n : Nat} {w w' : World} {S : Nat → Prop} {g cap o : Nat} {D1 L D2 : List Dat}
theorem OwnS.shape {v : Value} {ds : List Dat} (h : OwnS t F n w S v ds) : (v = .slice none 0 0 ∧ n = 0) ∨ ∃ g cap, v = .slice (some ⟨g, 0, none⟩) n cap ∧ n ≤ cap ∧ cap ≤ maxLen ∧ S g := by
  rcases h.x.shape with h1 | ⟨g, cap, e, h1, h2, _⟩
  · exact .inl h1
  · subst e
    exact .inr ⟨g, cap, rfl, h1, h2, h.blk⟩
theorem OwnS.slice {v : Value} {ds : List Dat} (h : OwnS t F n w S v ds) : ∃ A c, v = .slice A n c := by
  obtain ⟨vs, h1, h2⟩ := h
  exact Rw.slice (h2.1.own _ List.mem_cons_self)
theorem OwnS.turn {v : Value} {ds : List Dat} (h : OwnS t F n w S v ds) {i : Nat} {t' : TypeId} {F' n' : Nat} {cs cs' : List Value} {u : Value} (hd : ds[i]? = some (.row t' F' n' cs))
    (hc : ∃ g cap, v = .slice (some ⟨g, 0, none⟩) n cap ∧ w.cell? ⟨g, i, none⟩ = some u) (hi : i < n * F) (hg : w.grownBy w' u.ownBlock) (ho : w'.ownsRow 0 t' F' u n' cs') : OwnS t F n w' S v (ds.set i (.row t' F' n' cs')) := by
  obtain ⟨vs, h1, h2⟩ := h
  obtain ⟨g, cap, rfl, hcell⟩ := hc
  have hro : w.ownsRow 0 t F (.slice (some ⟨g, 0, none⟩) n cap) n vs := h2.1.own _ List.mem_cons_self
  rw [World.ownsRow.cellAt hro i hi] at hcell
  obtain ⟨e, hl⟩ := split_at hd
  obtain ⟨e', hl'⟩ := split_at hcell
  have hlen : (vs.take i).length = (ds.take i).length := by rw [hl, hl']
  have hin : innerD vs ds = innerD (vs.take i) (ds.take i) ++ ⟨u, t', F', n', cs⟩ :: innerD (vs.drop (i + 1)) (ds.drop (i + 1)) := by
    conv => lhs; rw [e, e', innerD_append _ _ _ _ hlen]
    rfl
  have hin' : innerD vs (ds.set i (.row t' F' n' cs')) = innerD (vs.take i) (ds.take i) ++ ⟨u, t', F', n', cs'⟩ :: innerD (vs.drop (i + 1)) (ds.drop (i + 1)) := by
    conv => lhs; rw [e, e', set_mid _ _ _ _ _ hl, innerD_append _ _ _ _ hlen]
    rfl
  refine ⟨vs, ?_, ?_⟩
  · conv at h1 => rw [e, e']
    rw [valsD_append hlen] at h1
    rw [e]
    conv => lhs; rw [e']
    rw [set_mid _ _ _ _ _ hl, valsD_append hlen]
    exact ⟨h1.1, h1.2⟩
  · rw [hin']
    rw [hin] at h2
    have := Heap.turn (w' := w') (A := ⟨.slice (some ⟨g, 0, none⟩) n cap, t, F, n, vs⟩ :: innerD (vs.take i) (ds.take i)) (r := ⟨u, t', F', n', cs⟩) (r' := ⟨u, t', F', n', cs'⟩) (by simpa using h2.1) hg ho (.inl rfl)
    refine ⟨by simpa using this, fun r hr k hk => ?_⟩
    simp only [List.mem_cons, List.mem_append] at hr
    have hm := fun r hr => h2.2 r hr
    simp only [List.mem_cons, List.mem_append] at hm
    rcases hr with rfl | h3 | rfl | h3
    · exact hm _ (.inl rfl) k hk
    · exact hm _ (.inr (.inl h3)) k hk
    · exact hm ⟨u, t', F', n', cs⟩ (.inr (.inr (.inl rfl))) k hk
    · exact hm _ (.inr (.inr (.inr h3))) k hk
end
end Go.Proofs.YtnlepnfdgdbkoaaGreatDoor
