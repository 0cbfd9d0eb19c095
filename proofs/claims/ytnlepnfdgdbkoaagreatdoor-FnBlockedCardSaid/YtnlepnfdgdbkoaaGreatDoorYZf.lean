/-
  Texts of this seat, laid together.
-/
import Derived.Test.YtnlepnfdgdbkoaaGreatDoorYMbh
import Derived.Test.YtnlepnfdgdbkoaaGreatDoorYZa
import Derived.Test.YtnlepnfdgdbkoaaGreatDoorYMbj
namespace Go.Proofs.YtnlepnfdgdbkoaaGreatDoor
open Go.RowKit M
set_option linter.unusedVariables false
set_option linter.unusedSimpArgs false
end Go.Proofs.YtnlepnfdgdbkoaaGreatDoor
namespace Go.Proofs.YtnlepnfdgdbkoaaGreatDoor
open Go.RowKit M
set_option linter.unusedVariables false
set_option linter.unusedSimpArgs false
structure WT (w : World) (κ : Nat → Nat) (s : S) (vc vj vt vl : Value) : Prop where
  t : WorT w (fun k => κ k = 1) (fun k => κ k = 2) (fun k => κ k = 3) (fun k => κ k = 4) (fun k => κ k = 5) s vc vj vt vl
  lt : ∀ k, κ k ≠ 0 → k < w.heap.size
structure Mv (κ κ' : Nat → Nat) (w w' : World) : Prop where
  old : ∀ k, k < w.heap.size → κ' k = κ k
  chg : Chg (fun k => κ k ≠ 0) w w'
theorem Mv.refl (κ : Nat → Nat) (w : World) : Mv κ κ w w := ⟨fun _ _ => rfl, Chg.refl _ _⟩
theorem Mv.size {κ κ' : Nat → Nat} {w w' : World} (h : Mv κ κ' w w') : w.heap.size ≤ w'.heap.size := h.chg.size
theorem Mv.trans {κ κ' κ'' : Nat → Nat} {a b c : World} (h : Mv κ κ' a b) (k : Mv κ' κ'' b c) : Mv κ κ'' a c :=
  ⟨fun i hi => (k.old i (Nat.lt_of_lt_of_le hi h.size)).trans (h.old i hi),
   ⟨k.chg.os.trans h.chg.os, k.chg.tape.trans h.chg.tape, k.chg.output.trans h.chg.output, Nat.le_trans h.size k.size,
    fun i hi hn => (k.chg.block i (Nat.lt_of_lt_of_le hi h.size) (by show ¬ (κ' i ≠ 0); rw [h.old i hi]; exact hn)).trans (h.chg.block i hi hn)⟩⟩
theorem Mv.of_below {κ : Nat → Nat} {a b : World} (h : Below a.heap.size a b) : Mv κ κ a b := ⟨fun _ _ => rfl, Chg.of_below h⟩
theorem Mv.thn {κ κ' : Nat → Nat} {a b c : World} (h : Mv κ κ' a b) (k : Below a.heap.size b c) : Mv κ κ' a c := ⟨h.old, chg_belowP h.chg k⟩
theorem Mv.to_below {κ κ' : Nat → Nat} {w0 a b : World} {B : Nat} (h : Mv κ κ' a b) (hb : Below B w0 a) (hB : B ≤ a.heap.size) (hk : ∀ k, κ k ≠ 0 → B ≤ k) : Below B w0 b := Chg.to_below hb h.chg hB hk
theorem Blk.mv {κ κ' : Nat → Nat} {w w' : World} {g : Nat} {t : TypeId} {cs : Array Value} (h : Blk w g t cs) (m : Mv κ κ' w w') (hg : κ g = 0) : Blk w' g t cs := (m.chg.block g h.lt (fun e => e hg)).trans h
theorem WT.below {w w' : World} {κ : Nat → Nat} {s : S} {vc vj vt vl : Value} (h : WT w κ s vc vj vt vl) (hb : Below w.heap.size w w') : WT w' κ s vc vj vt vl := ⟨h.t.below hb, fun k hk => Nat.lt_of_lt_of_le (h.lt k hk) hb.size⟩
theorem WT.off {w w' : World} {κ : Nat → Nat} {s : S} {vc vj vt vl : Value} {T : Nat → Prop} (h : WT w κ s vc vj vt vl) (hc : Chg T w w') (hT : ∀ k, T k → κ k = 0 ∨ 6 ≤ κ k) : WT w' κ s vc vj vt vl :=
  ⟨h.t.chg hc (fun k hk ht => by
    have h1 := hT k ht
    have h2 : κ k = 1 ∨ κ k = 2 ∨ κ k = 3 ∨ κ k = 4 ∨ κ k = 5 := hk
    omega), fun k hk => Nat.lt_of_lt_of_le (h.lt k hk) hc.size⟩
theorem WT.store {w : World} {κ : Nat → Nat} {s : S} {vc vj vt vl : Value} (h : WT w κ s vc vj vt vl) {g : Nat} {t : TypeId} {cs : Array Value} (hb : Blk w g t cs) (hg : κ g = 0 ∨ 6 ≤ κ g) (i : Nat) (v : Value) : WT (w.setCell ⟨g, i, none⟩ v) κ s vc vj vt vl :=
  h.off (T := fun k => k = g) (Chg.of_grown (row_store hb i v) (fun i hi => by injection hi with hi; exact hi.symm)) (fun k hk => by subst hk; exact hg)
theorem WT.setRow {w : World} {κ : Nat → Nat} {s : S} {vc vj vt vl : Value} (h : WT w κ s vc vj vt vl) {g : Nat} (hg : κ g = 0 ∨ 6 ≤ κ g) (cs : Array Value) : WT (w.setRow g cs) κ s vc vj vt vl :=
  h.off (T := fun k => k = g) (Chg.of_grown (grown_setRow w g cs) (fun i hi => by injection hi with hi; exact hi.symm)) (fun k hk => by subst hk; exact hg)
theorem WT.new0 {w : World} {κ : Nat → Nat} {s : S} {vc vj vt vl : Value} (h : WT w κ s vc vj vt vl) {k : Nat} (hk : w.heap.size ≤ k) : κ k = 0 := by
  rcases Nat.eq_zero_or_pos (κ k) with h0 | h0
  · exact h0
  · have := h.lt k (by omega); omega
theorem WT.nums {w : World} {κ : Nat → Nat} {s : S} {vc vj vt vl : Value} (h : WT w κ s vc vj vt vl) (a b : Int) : WT w κ { s with serial := a, now := b } vc vj vt vl := ⟨⟨h.t.c, h.t.j, h.t.t, h.t.l⟩, h.lt⟩
theorem repaint (κ : Nat → Nat) (i : Nat) (F : Nat → Prop) : ∃ κ' : Nat → Nat, ∀ k, (F k → κ' k = i) ∧ (¬ F k → κ' k = κ k) := by
  classical
  exact ⟨fun k => if F k then i else κ k, fun k => ⟨fun h => if_pos h, fun h => if_neg h⟩⟩
theorem Chg.weak {S T : Nat → Prop} {w w' : World} (h : Chg T w w') (hs : ∀ k, k < w.heap.size → T k → S k) : Chg S w w' := ⟨h.os, h.tape, h.output, h.size, fun i hi hn => h.block i hi (fun ht => hn (hs i hi ht))⟩
structure MvR (R : Nat → Prop) (κ κ' : Nat → Nat) (w w' : World) : Prop where
  old : ∀ k, k < w.heap.size → ¬ R k → κ' k = κ k
  chg : Chg (fun k => κ k ≠ 0) w w'
theorem MvR.mv {κ κ' : Nat → Nat} {w w' : World} (h : MvR (fun _ => False) κ κ' w w') : Mv κ κ' w w' := ⟨fun k hk => h.old k hk (fun h => h), h.chg⟩
theorem MvR.from {R : Nat → Prop} {κ κ' : Nat → Nat} {w0 w w' : World} (h : MvR R κ κ' w w') (h0 : Mv κ κ w0 w) (hR : ∀ k, R k → w0.heap.size ≤ k) : Mv κ κ' w0 w' :=
  ⟨fun k hk => h.old k (Nat.lt_of_lt_of_le hk h0.size) (fun hr => by have := hR k hr; omega), h0.chg.trans h.chg⟩
theorem turned {w w' : World} {κ : Nat → Nat} (i : Nat) (hi : i ≠ 0) (hlt : ∀ k, κ k ≠ 0 → k < w.heap.size) {T F R : Nat → Prop} (hc : Chg T w w') (hR : ∀ k, R k → κ k = 0) (hT : ∀ k, T k → κ k = i ∨ w.heap.size ≤ k) (hF : ∀ k, F k → (κ k = i ∨ w.heap.size ≤ k) ∨ R k) :
    ∃ κ' : Nat → Nat, (∀ k, F k → k < w'.heap.size → κ' k = i) ∧ (∀ k, κ k ≠ 0 → κ' k = κ k) ∧ (∀ k, κ' k ≠ 0 → k < w'.heap.size) ∧ MvR R κ κ' w w' := by
  obtain ⟨κ', hk⟩ := repaint κ i (fun k => F k ∧ k < w'.heap.size)
  have hkeep : ∀ k, k < w.heap.size → ¬ R k → κ' k = κ k := by
    intro k hlt1 hr
    by_cases hf : F k ∧ k < w'.heap.size
    · rw [(hk k).1 hf]
      rcases hF k hf.1 with (h | h) | h
      · exact h.symm
      · omega
      · exact absurd h hr
    · exact (hk k).2 hf
  refine ⟨κ', fun k h1 h2 => (hk k).1 ⟨h1, h2⟩, fun k h1 => hkeep k (hlt k h1) (fun hr => h1 (hR k hr)), fun k h1 => ?_, hkeep, hc.weak (fun k h1 h2 => ?_)⟩
  · by_cases hf : F k ∧ k < w'.heap.size
    · exact hf.2
    · rw [(hk k).2 hf] at h1
      exact Nat.lt_of_lt_of_le (hlt k h1) hc.size
  · rcases hT k h2 with h | h
    · show κ k ≠ 0
      omega
    · omega
theorem TodoS.mono {w : World} {S T S' T' : Nat → Prop} {v : Value} {ls : List (List O)} (h : TodoS w S T v ls) (hs : ∀ k, S k → S' k) (ht : ∀ k, T k → T' k) : TodoS w S' T' v ls := by
  obtain ⟨us, h1, h2, hq⟩ := h
  exact ⟨us, h1.mono hs, fun j hj => by obtain ⟨u, h3, h4⟩ := h2 j hj; exact ⟨u, h3, h4.mono ht⟩, hq⟩
section
variable {w w' : World} {κ : Nat → Nat} {s : S} {vc vj vt vl : Value} {T F : Nat → Prop}
theorem HeapS.inlt {L : List Rw} (h : HeapS w F L) : HeapS w (fun k => F k ∧ k < w.heap.size) L := h.lt
theorem OwnS.inlt {t : TypeId} {G n : Nat} {v : Value} {ds : List Dat} (h : OwnS t G n w F v ds) : OwnS t G n w (fun k => F k ∧ k < w.heap.size) v ds := by
  obtain ⟨vs, h1, h2⟩ := h; exact ⟨vs, h1, h2.lt⟩
theorem apart {i : Nat} (h : WT w κ s vc vj vt vl) (hT : ∀ k, T k → κ k = i ∨ w.heap.size ≤ k) (j : Nat) (hj : j ≠ 0) (hij : j ≠ i) (k : Nat) (hk : κ k = j) : ¬ T k := by
  intro ht
  have h1 := hT k ht
  have h2 := h.lt k (by omega)
  omega
theorem WT.cellsTo (h : WT w κ s vc vj vt vl) (hc : Chg T w w') (hT : ∀ k, T k → κ k = 1 ∨ w.heap.size ≤ k) {vc' : Value} {cs' : List Int} (hr : HeapS w' F [intRw vc' cs']) (hF : ∀ k, F k → κ k = 1 ∨ w.heap.size ≤ k) :
    ∃ κ', WT w' κ' { s with cells := cs' } vc' vj vt vl ∧ Mv κ κ' w w' := by
  obtain ⟨κ', h1, h2, h3, h4'⟩ := turned (R := fun _ => False) 1 (by decide) h.lt hc (fun _ h => h.elim) hT (fun k hk => .inl (hF k hk))
  have h4 := h4'.mv
  have hkp : ∀ (j : Nat) (hj : j ≠ 0) (k : Nat) (hk : κ k = j), κ' k = j := fun j hj k hk => by rw [h2 k (by omega)]; exact hk
  exact ⟨κ', ⟨⟨hr.inlt.mono (fun k hk => h1 k hk.1 hk.2), (h.t.j.chg hc (apart h hT 2 (by decide) (by decide))).mono (hkp 2 (by decide)),
    TodoS.mono (h.t.t.chg hc (apart h hT 3 (by decide) (by decide)) (apart h hT 4 (by decide) (by decide))) (hkp 3 (by decide)) (hkp 4 (by decide)),
    (h.t.l.chg hc (apart h hT 5 (by decide) (by decide))).mono (hkp 5 (by decide))⟩, h3⟩, h4⟩
theorem WT.jobsTo (h : WT w κ s vc vj vt vl) (hc : Chg T w w') (hT : ∀ k, T k → κ k = 2 ∨ w.heap.size ≤ k) {vj' : Value} {js' : List J} (hr : OwnS 50 18 js'.length w' F vj' (datL jobDat js')) (hF : ∀ k, F k → κ k = 2 ∨ w.heap.size ≤ k) :
    ∃ κ', WT w' κ' { s with jobs := js' } vc vj' vt vl ∧ Mv κ κ' w w' := by
  obtain ⟨κ', h1, h2, h3, h4'⟩ := turned (R := fun _ => False) 2 (by decide) h.lt hc (fun _ h => h.elim) hT (fun k hk => .inl (hF k hk))
  have h4 := h4'.mv
  have hkp : ∀ (j : Nat) (hj : j ≠ 0) (k : Nat) (hk : κ k = j), κ' k = j := fun j hj k hk => by rw [h2 k (by omega)]; exact hk
  exact ⟨κ', ⟨⟨(h.t.c.chg hc (apart h hT 1 (by decide) (by decide))).mono (hkp 1 (by decide)), hr.inlt.mono (fun k hk => h1 k hk.1 hk.2),
    TodoS.mono (h.t.t.chg hc (apart h hT 3 (by decide) (by decide)) (apart h hT 4 (by decide) (by decide))) (hkp 3 (by decide)) (hkp 4 (by decide)),
    (h.t.l.chg hc (apart h hT 5 (by decide) (by decide))).mono (hkp 5 (by decide))⟩, h3⟩, h4⟩
theorem WT.logTo (h : WT w κ s vc vj vt vl) (hc : Chg T w w') (hT : ∀ k, T k → κ k = 5 ∨ w.heap.size ≤ k) {vl' : Value} {es' : List E} (hr : OwnS 39 13 es'.length w' F vl' (datL evDat es')) {R : Nat → Prop} (hR : ∀ k, R k → κ k = 0) (hF : ∀ k, F k → (κ k = 5 ∨ w.heap.size ≤ k) ∨ R k) :
    ∃ κ', WT w' κ' { s with log := es' } vc vj vt vl' ∧ MvR R κ κ' w w' := by
  obtain ⟨κ', h1, h2, h3, h4⟩ := turned (R := R) 5 (by decide) h.lt hc hR hT hF
  have hkp : ∀ (j : Nat) (hj : j ≠ 0) (k : Nat) (hk : κ k = j), κ' k = j := fun j hj k hk => by rw [h2 k (by omega)]; exact hk
  exact ⟨κ', ⟨⟨(h.t.c.chg hc (apart h hT 1 (by decide) (by decide))).mono (hkp 1 (by decide)), (h.t.j.chg hc (apart h hT 2 (by decide) (by decide))).mono (hkp 2 (by decide)),
    TodoS.mono (h.t.t.chg hc (apart h hT 3 (by decide) (by decide)) (apart h hT 4 (by decide) (by decide))) (hkp 3 (by decide)) (hkp 4 (by decide)),
    hr.inlt.mono (fun k hk => h1 k hk.1 hk.2)⟩, h3⟩, h4⟩
theorem WT.todoIn (h : WT w κ s vc vj vt vl) (hc : Chg (fun k => κ k = 3) w w') {ts' : List (List O)} (hr : TodoS w' (fun k => κ k = 3) (fun k => κ k = 4) vt ts') : WT w' κ { s with todo := ts' } vc vj vt vl ∧ Mv κ κ w w' :=
  have hT : ∀ k, κ k = 3 → κ k = 3 ∨ w.heap.size ≤ k := fun k hk => .inl hk
  ⟨⟨⟨h.t.c.chg hc (apart h hT 1 (by decide) (by decide)), h.t.j.chg hc (apart h hT 2 (by decide) (by decide)), hr, h.t.l.chg hc (apart h hT 5 (by decide) (by decide))⟩, fun k hk => Nat.lt_of_lt_of_le (h.lt k hk) hc.size⟩,
   fun _ _ => rfl, hc.weak (fun k _ hk => by show κ k ≠ 0; omega)⟩
theorem WT.cellsIn (h : WT w κ s vc vj vt vl) (hc : Chg (fun k => κ k = 1) w w') {vc' : Value} {cs' : List Int} (hr : HeapS w' (fun k => κ k = 1) [intRw vc' cs']) : WT w' κ { s with cells := cs' } vc' vj vt vl ∧ Mv κ κ w w' :=
  have hT : ∀ k, κ k = 1 → κ k = 1 ∨ w.heap.size ≤ k := fun k hk => .inl hk
  ⟨⟨⟨hr, h.t.j.chg hc (apart h hT 2 (by decide) (by decide)), h.t.t.chg hc (apart h hT 3 (by decide) (by decide)) (apart h hT 4 (by decide) (by decide)), h.t.l.chg hc (apart h hT 5 (by decide) (by decide))⟩, fun k hk => Nat.lt_of_lt_of_le (h.lt k hk) hc.size⟩,
   fun _ _ => rfl, hc.weak (fun k _ hk => by show κ k ≠ 0; omega)⟩
theorem WT.jobsIn (h : WT w κ s vc vj vt vl) (hc : Chg (fun k => κ k = 2) w w') {vj' : Value} {js' : List J} (hr : OwnS 50 18 js'.length w' (fun k => κ k = 2) vj' (datL jobDat js')) : WT w' κ { s with jobs := js' } vc vj' vt vl ∧ Mv κ κ w w' :=
  have hT : ∀ k, κ k = 2 → κ k = 2 ∨ w.heap.size ≤ k := fun k hk => .inl hk
  ⟨⟨⟨h.t.c.chg hc (apart h hT 1 (by decide) (by decide)), hr, h.t.t.chg hc (apart h hT 3 (by decide) (by decide)) (apart h hT 4 (by decide) (by decide)), h.t.l.chg hc (apart h hT 5 (by decide) (by decide))⟩, fun k hk => Nat.lt_of_lt_of_le (h.lt k hk) hc.size⟩,
   fun _ _ => rfl, hc.weak (fun k _ hk => by show κ k ≠ 0; omega)⟩
theorem WT.cells (h : WT w κ s vc vj vt vl) (hn : s.cells.length = 71) : ∃ b cap, vc = .slice (some ⟨b, 0, none⟩) 71 cap ∧ 71 ≤ cap ∧ cap ≤ maxLen ∧ κ b = 1 ∧ (∀ i, i < 71 → w.cell? ⟨b, i, none⟩ = some (.int .i64 (s.cells.getD i 0))) ∧ ∀ i, w.frozen? ⟨b, i, none⟩ = false := by
  have ho : w.ownsRow 0 3 1 vc s.cells.length (s.cells.map (Value.int .i64)) := h.t.c.1.own _ List.mem_cons_self
  have ho' := ho
  rcases ho.2 with ⟨e, h0⟩ | ⟨g, cap, cur, e, _, hg, hc, hm, _, _⟩
  · omega
  · subst e
    refine ⟨g, cap, by rw [hn], by rw [← hn]; exact hc, hm, h.t.c.2 _ List.mem_cons_self g rfl, fun i hi => ?_, fun i => World.ownsRow.frozenAt ho' i⟩
    rw [World.ownsRow.cellAt ho' i (by omega), List.getElem?_map, List.getElem?_eq_getElem (by omega), List.getD_eq_getElem?_getD, List.getElem?_eq_getElem (by omega)]
    rfl
theorem WT.cellSet {b n cap : Nat} (h : WT w κ s (.slice (some ⟨b, 0, none⟩) n cap) vj vt vl) (hn : s.cells.length = n) (i : Nat) (v : Int) (hi : i < s.cells.length) :
    WT (w.setCell ⟨b, i, none⟩ (.int .i64 v)) κ { s with cells := s.cells.set i v } (.slice (some ⟨b, 0, none⟩) n cap) vj vt vl ∧ Mv κ κ w (w.setCell ⟨b, i, none⟩ (.int .i64 v)) := by
  subst hn
  have hk : κ b = 1 := h.t.c.2 _ List.mem_cons_self b rfl
  have hs := Heap.set (A := []) (M := []) (n := s.cells.length) (cap := cap) (g := b) (t := 3) (F := 1) (cs := s.cells.map (Value.int .i64)) h.t.c.1 i (.int .i64 v)
  refine WT.cellsIn h (Chg.of_grown hs.2 (fun k e => by injection e with e; subst e; exact hk)) ⟨?_, fun r hr k e => ?_⟩
  · have e1 : (intRw (.slice (some ⟨b, 0, none⟩) s.cells.length cap) (s.cells.set i v)) = ⟨.slice (some ⟨b, 0, none⟩) s.cells.length cap, 3, 1, s.cells.length, (s.cells.map (Value.int .i64)).set i (.int .i64 v)⟩ := by
      unfold intRw
      rw [List.length_set, List.map_set]
    rw [e1]
    exact hs.1
  · rw [List.mem_singleton.1 hr] at e
    injection e with e
    subst e
    exact hk
theorem set_len {α : Type} (l : List α) (t : Nat) (r : α) : (l.set t r).length = l.length := by simp
theorem getD_set {α : Type} (l : List α) (t : Nat) (r z : α) (h : t < l.length) : (l.set t r).getD t z = r := by
  rw [List.getD_eq_getElem?_getD, List.getElem?_set_self h]; rfl
theorem getD_ne {α : Type} (l : List α) (t i : Nat) (r z : α) (h : i ≠ t) : (l.set t r).getD i z = l.getD i z := by
  rw [List.getD_eq_getElem?_getD, List.getD_eq_getElem?_getD, List.getElem?_set_ne (Ne.symm h)]
theorem datL_mid {α : Type} {G : Nat} {dat : α → List Dat} (hG : ∀ r, (dat r).length = G) (z : α) (l : List α) (t : Nat) (ht : t < l.length) :
    datL dat l = datL dat (l.take t) ++ (dat (l.getD t z) ++ datL dat (l.drop (t + 1))) ∧ (∀ r, datL dat (l.set t r) = datL dat (l.take t) ++ (dat r ++ datL dat (l.drop (t + 1)))) ∧ (datL dat (l.take t)).length = t * G := by
  have hx : l[t]? = some (l.getD t z) := by rw [List.getD_eq_getElem?_getD, List.getElem?_eq_getElem ht]; rfl
  obtain ⟨e, hl⟩ := split_at hx
  refine ⟨?_, fun r => ?_, by rw [datL_length hG, hl]⟩
  · conv => lhs; rw [e]
    rw [datL_append]
    rfl
  · conv => lhs; rw [e]
    rw [set_mid _ _ _ _ _ hl, datL_append]
    rfl
theorem datL_set {α : Type} {G : Nat} {dat : α → List Dat} (hG : ∀ r, (dat r).length = G) (z : α) (l : List α) (t o : Nat) (ht : t < l.length) (ho : o < G) (r' : α) (d : Dat) (he : dat r' = (dat (l.getD t z)).set o d) : datL dat (l.set t r') = (datL dat l).set (t * G + o) d := by
  obtain ⟨e1, e2, e3⟩ := datL_mid hG z l t ht
  rw [e2 r', e1, List.set_append_right _ _ (by omega), e3, Nat.add_sub_cancel_left, List.set_append_left _ _ (by rw [hG]; exact ho), he]
theorem WT.fld {b n cap : Nat} (h : WT w κ s vc (.slice (some ⟨b, 0, none⟩) n cap) vt vl) (hn : s.jobs.length = n) (t o : Nat) (ht : t < n) (ho : o < 18) {r r' : J} {x : Value} (u : Value) (hr : s.jobs.getD t zeroJ = r) (hx : (jobDat r)[o]? = some (.val x)) (he : jobDat r' = (jobDat r).set o (.val u)) :
    WT (w.setCell ⟨b, t * 18 + o, none⟩ u) κ { s with jobs := s.jobs.set t r' } vc (.slice (some ⟨b, 0, none⟩) n cap) vt vl ∧ Mv κ κ w (w.setCell ⟨b, t * 18 + o, none⟩ u) := by
  subst hr
  subst hn
  have hd : (datL jobDat s.jobs)[t * 18 + o]? = some (.val x) := by rw [datL_at jobDat_len zeroJ s.jobs t o ht ho]; exact hx
  have hs := OwnS.set h.t.j hd u
  refine WT.jobsIn h hs.2 ?_
  rw [datL_set jobDat_len zeroJ s.jobs t o ht ho r' (.val u) he, set_len]
  exact hs.1
theorem WT.job (h : WT w κ s vc vj vt vl) (t : Nat) (ht : t < s.jobs.length) :
    ∃ b cap vk vr, vj = .slice (some ⟨b, 0, none⟩) s.jobs.length cap ∧ κ b = 2 ∧ w.rangeAt b (t * 18) (jobVals (s.jobs.getD t zeroJ) vk vr).toList ∧ w.ownsRow 0 3 1 vk (s.jobs.getD t zeroJ).keys.length ((s.jobs.getD t zeroJ).keys.map (Value.int .i64)) ∧ w.ownsRow 0 3 1 vr (s.jobs.getD t zeroJ).raw.length ((s.jobs.getD t zeroJ).raw.map (Value.int .i64)) ∧ (∀ i, w.frozen? ⟨b, i, none⟩ = false) ∧ (∀ k, vk.ownBlock = some k → κ k = 2) ∧ (∀ k, vr.ownBlock = some k → κ k = 2) := by
  obtain ⟨b, cap, vk, vr, e, hb, h1, h2, h3⟩ := ownJob_at (show OwnY 50 18 jobDat w 0 w.heap.size vj s.jobs from h.t.j.x) t ht
  subst e
  obtain ⟨vs, hv, hh⟩ := h.t.j
  have ho : w.ownsRow 0 50 18 (.slice (some ⟨b, 0, none⟩) s.jobs.length cap) s.jobs.length vs := hh.1.own _ List.mem_cons_self
  have key : ∀ (o : Nat) (hlt : o < 18) (u : Value) (n : Nat) (cs : List Value), (jobDat (s.jobs.getD t zeroJ))[o]? = some (.row 3 1 n cs) → w.cell? ⟨b, t * 18 + o, none⟩ = some u → ∀ k, u.ownBlock = some k → κ k = 2 := by
    intro o hlt u n cs hd hc k hk
    have hd' : (datL jobDat s.jobs)[t * 18 + o]? = some (.row 3 1 n cs) := by rw [datL_at jobDat_len zeroJ s.jobs t o ht hlt]; exact hd
    obtain ⟨u1, hu1, hm⟩ := innerD_row (valsD_len hv) hd'
    have hlt2 : t * 18 + o < s.jobs.length * 18 := by omega
    rw [World.ownsRow.cellAt ho _ hlt2] at hc
    rw [hc] at hu1
    injection hu1 with hu1
    subst hu1
    exact hh.2 _ (List.mem_cons_of_mem _ hm) k hk
  exact ⟨b, cap, vk, vr, rfl, hh.2 _ List.mem_cons_self b rfl, h1, h2, h3, fun i => World.ownsRow.frozenAt ho i, key 16 (by decide) vk _ _ rfl (h1 16 vk rfl), key 17 (by decide) vr _ _ rfl (h1 17 vr rfl)⟩
end
end Go.Proofs.YtnlepnfdgdbkoaaGreatDoor
namespace Go.Proofs.YtnlepnfdgdbkoaaGreatDoor
open Go.RowKit M
set_option linter.unusedVariables false
set_option linter.unusedSimpArgs false
structure PJ (w : World) (κ : Nat → Nat) (g b cap : Nat) (vt : Value) (t : Nat) (s : S) (r : J) (vc vl : Value) : Prop where
  blk : Blk w g 33 (worVals s vc (.slice (some ⟨b, 0, none⟩) 4 cap) vt vl)
  wt : WT w κ { s with jobs := s.jobs.set t r } vc (.slice (some ⟨b, 0, none⟩) 4 cap) vt vl
  six : κ g = 6
  jl : s.jobs.length = 4
  tl : t < 4
section
variable {w w' : World} {κ : Nat → Nat} {g b cap : Nat} {vt : Value} {t : Nat} {s : S} {r : J} {vc vl : Value}
theorem PJ.jl' (h : PJ w κ g b cap vt t s r vc vl) : (s.jobs.set t r).length = 4 := by rw [set_len]; exact h.jl
theorem PJ.job (h : PJ w κ g b cap vt t s r vc vl) : (s.jobs.set t r).getD t zeroJ = r := getD_set _ _ _ _ (by rw [h.jl]; exact h.tl)
theorem PJ.below (h : PJ w κ g b cap vt t s r vc vl) (hb : Below w.heap.size w w') : PJ w' κ g b cap vt t s r vc vl := ⟨h.blk.below hb, h.wt.below hb, h.six, h.jl, h.tl⟩
theorem PJ.store (h : PJ w κ g b cap vt t s r vc vl) {g1 : Nat} {t1 : TypeId} {cs : Array Value} (hb : Blk w g1 t1 cs) (hg : κ g1 = 0) (i : Nat) (v : Value) : PJ (w.setCell ⟨g1, i, none⟩ v) κ g b cap vt t s r vc vl :=
  ⟨h.blk.far _ _ _ (fun e => by have := h.six; rw [e] at this; omega), h.wt.store hb (.inl hg) i v, h.six, h.jl, h.tl⟩
theorem PJ.setRow (h : PJ w κ g b cap vt t s r vc vl) {g1 : Nat} (hg : κ g1 = 0) (cs : Array Value) : PJ (w.setRow g1 cs) κ g b cap vt t s r vc vl :=
  ⟨h.blk.grown (grown_setRow w g1 cs) (fun e => by injection e with e; have := h.six; rw [← e] at this; omega), h.wt.setRow (.inl hg) cs, h.six, h.jl, h.tl⟩
theorem PJ.mv_blk (h : PJ w κ g b cap vt t s r vc vl) {T : Nat → Prop} (hc : Chg T w w') (hT : ∀ k, T k → (1 ≤ κ k ∧ κ k ≤ 5) ∨ w.heap.size ≤ k) : Blk w' g 33 (worVals s vc (.slice (some ⟨b, 0, none⟩) 4 cap) vt vl) :=
  (hc.block g h.blk.lt (fun ht => by have h1 := hT g ht; have h2 := h.six; have := h.blk.lt; omega)).trans h.blk
theorem PJ.cells (h : PJ w κ g b cap vt t s r vc vl) : ∃ vk vr, w.rangeAt b (t * 18) (jobVals r vk vr).toList ∧ w.ownsRow 0 3 1 vk r.keys.length (r.keys.map (Value.int .i64)) ∧ w.ownsRow 0 3 1 vr r.raw.length (r.raw.map (Value.int .i64)) ∧ (∀ i, w.frozen? ⟨b, i, none⟩ = false) ∧ κ b = 2 ∧ (∀ k, vk.ownBlock = some k → κ k = 2) ∧ (∀ k, vr.ownBlock = some k → κ k = 2) := by
  obtain ⟨b', cap', vk, vr, e, h1, h2, h3, h4, h5, h6, h7⟩ := h.wt.job t (by show t < (s.jobs.set t r).length; rw [h.jl']; exact h.tl)
  injection e with e1 e2 e3
  injection e1 with e1
  injection e1 with e1
  subst e1
  have hj : ({ s with jobs := s.jobs.set t r } : S).jobs.getD t zeroJ = r := h.job
  rw [hj] at h2 h3 h4
  exact ⟨vk, vr, h2, h3, h4, h5, h1, h6, h7⟩
theorem PJ.fld (h : PJ w κ g b cap vt t s r vc vl) (o : Nat) (ho : o < 18) {r' : J} {x : Value} (u : Value) (hx : (jobDat r)[o]? = some (.val x)) (he : jobDat r' = (jobDat r).set o (.val u)) :
    PJ (w.setCell ⟨b, t * 18 + o, none⟩ u) κ g b cap vt t s r' vc vl ∧ Mv κ κ w (w.setCell ⟨b, t * 18 + o, none⟩ u) := by
  have hf := WT.fld h.wt h.jl' t o h.tl ho u h.job hx he
  have e : (s.jobs.set t r).set t r' = s.jobs.set t r' := List.set_set ..
  obtain ⟨vk, vr, _, _, _, _, hb2, _⟩ := h.cells
  refine ⟨⟨h.blk.far _ _ _ (fun e => by have := h.six; rw [e] at this; omega), ?_, h.six, h.jl, h.tl⟩, hf.2⟩
  have := hf.1
  simp only [e] at this
  exact this
theorem PJ.ser (h : PJ w κ g b cap vt t s r vc vl) (n : Int) : PJ (w.setCell ⟨g, 4, none⟩ (.int .i64 n)) κ g b cap vt t { s with serial := n } r vc vl ∧ Mv κ κ w (w.setCell ⟨g, 4, none⟩ (.int .i64 n)) :=
  ⟨⟨h.blk.store 4 _, (h.wt.store h.blk (.inr (by have := h.six; omega)) 4 _).nums _ _, h.six, h.jl, h.tl⟩, fun _ _ => rfl, Chg.of_grown (row_store h.blk 4 _) (fun i hi => by injection hi with hi; subst hi; show κ g ≠ 0; have := h.six; omega)⟩
theorem PJ.now (h : PJ w κ g b cap vt t s r vc vl) (n : Int) : PJ (w.setCell ⟨g, 5, none⟩ (.int .i64 n)) κ g b cap vt t { s with now := n } r vc vl ∧ Mv κ κ w (w.setCell ⟨g, 5, none⟩ (.int .i64 n)) :=
  ⟨⟨h.blk.store 5 _, (h.wt.store h.blk (.inr (by have := h.six; omega)) 5 _).nums _ _, h.six, h.jl, h.tl⟩, fun _ _ => rfl, Chg.of_grown (row_store h.blk 5 _) (fun i hi => by injection hi with hi; subst hi; show κ g ≠ 0; have := h.six; omega)⟩
theorem PJ.newCells {w1 : World} (h : PJ w κ g b cap vt t s r vc vl) (hb : Below w.heap.size w w1) {vc' : Value} {cs' : List Int} (ho : w1.ownsRow w.heap.size 3 1 vc' cs'.length (cs'.map (Value.int .i64))) :
    ∃ κ', PJ (w1.setCell ⟨g, 0, none⟩ vc') κ' g b cap vt t { s with cells := cs' } r vc' vl ∧ Mv κ κ' w (w1.setCell ⟨g, 0, none⟩ vc') := by
  have h1 := h.below hb
  have hT : ∀ k : Nat, False → κ k = 1 ∨ w.heap.size ≤ k := fun _ h => h.elim
  obtain ⟨κ', hw, hm⟩ := h.wt.cellsTo (T := fun _ => False) (F := fun k => w.heap.size ≤ k) (vc' := vc') (cs' := cs') (Chg.of_below hb) hT ⟨Heap.one (r := intRw vc' cs') (Rw.own_base ho (Nat.zero_le _)), fun x hx k hk => by rw [List.mem_singleton.1 hx] at hk; exact (World.ownsRow.lt ho k hk).1⟩ (fun k hk => .inr hk)
  have h6 : κ' g = 6 := by rw [hm.old g h.blk.lt]; exact h.six
  refine ⟨κ', ⟨h1.blk.store 0 _, hw.store h1.blk (.inr (by omega)) 0 _, h6, h.jl, h.tl⟩, hm.trans ⟨fun _ _ => rfl, Chg.of_grown (row_store h1.blk 0 _) (fun i hi => by injection hi with hi; subst hi; show κ' g ≠ 0; omega)⟩⟩
theorem PJ.log {w1 : World} (h : PJ w κ g b cap vt t s r vc vl) {vl' : Value} {es : List E} {T F R : Nat → Prop} (hc : Chg T w w1) (hT : ∀ k, T k → κ k = 5 ∨ w.heap.size ≤ k) (hr : OwnS 39 13 es.length w1 F vl' (datL evDat es)) (hR : ∀ k, R k → κ k = 0) (hF : ∀ k, F k → (κ k = 5 ∨ w.heap.size ≤ k) ∨ R k) :
    ∃ κ', PJ (w1.setCell ⟨g, 3, none⟩ vl') κ' g b cap vt t { s with log := es } r vc vl' ∧ MvR R κ κ' w (w1.setCell ⟨g, 3, none⟩ vl') := by
  obtain ⟨κ', hw, hm⟩ := h.wt.logTo hc hT hr hR hF
  have h6 : κ' g = 6 := by rw [hm.old g h.blk.lt (fun hr => by have := hR g hr; have := h.six; omega)]; exact h.six
  have hb1 := h.mv_blk hc (fun k hk => by rcases hT k hk with h1 | h1; exact .inl (by omega); exact .inr h1)
  exact ⟨κ', ⟨hb1.store 3 _, hw.store hb1 (.inr (by omega)) 3 _, h6, h.jl, h.tl⟩, hm.old, hm.chg.trans (Chg.of_grown (row_store hb1 3 _) (fun i hi => by injection hi with hi; subst hi; show κ g ≠ 0; have := h.six; omega))⟩
theorem OwnS.grow {t : TypeId} {F n : Nat} {w w1 : World} {S : Nat → Prop} {g cap : Nat} {ds : List Dat} (h : OwnS t F n w S (.slice (some ⟨g, 0, none⟩) n cap) ds) {i : Nat} (hi : i < n * F) {t1 : TypeId} {F1 n1 n2 : Nat} {cs1 cs2 : List Value} {u u' : Value}
    (hd : ds[i]? = some (.row t1 F1 n1 cs1)) (hu : w.cell? ⟨g, i, none⟩ = some u) (hg : w.grownBy w1 u.ownBlock) (hr : w1.ownsRow 0 t1 F1 u' n2 cs2) (hv : u'.ownBlock = u.ownBlock ∨ ∀ k, u'.ownBlock = some k → w.heap.size ≤ k) :
    OwnS t F n (w1.setCell ⟨g, i, none⟩ u') (fun k => S k ∨ w.heap.size ≤ k) (.slice (some ⟨g, 0, none⟩) n cap) (ds.set i (.row t1 F1 n2 cs2)) ∧ Chg S w w1 := by
  obtain ⟨vs, h1, h2⟩ := h
  have hro : w.ownsRow 0 t F (.slice (some ⟨g, 0, none⟩) n cap) n vs := h2.1.own _ List.mem_cons_self
  rw [World.ownsRow.cellAt hro i hi] at hu
  obtain ⟨e, hl⟩ := split_at hd
  obtain ⟨e', hl'⟩ := split_at hu
  have hlen : (vs.take i).length = (ds.take i).length := by rw [hl, hl']
  have hin : innerD vs ds = innerD (vs.take i) (ds.take i) ++ ⟨u, t1, F1, n1, cs1⟩ :: innerD (vs.drop (i + 1)) (ds.drop (i + 1)) := by
    conv => lhs; rw [e, e', innerD_append _ _ _ _ hlen]
    rfl
  have hin' : innerD (vs.set i u') (ds.set i (.row t1 F1 n2 cs2)) = innerD (vs.take i) (ds.take i) ++ ⟨u', t1, F1, n2, cs2⟩ :: innerD (vs.drop (i + 1)) (ds.drop (i + 1)) := by
    conv => lhs; rw [e, e', set_mid _ _ _ _ _ hl, set_mid _ _ _ _ _ hl', innerD_append _ _ _ _ hlen]
    rfl
  rw [hin] at h2
  have hS : ∀ k, u.ownBlock = some k → S k := fun k hk => h2.2 ⟨u, t1, F1, n1, cs1⟩ (List.mem_cons_of_mem _ (List.mem_append_right _ List.mem_cons_self)) k hk
  have ht := Heap.turn (w' := w1) (A := ⟨.slice (some ⟨g, 0, none⟩) n cap, t, F, n, vs⟩ :: innerD (vs.take i) (ds.take i)) (r := ⟨u, t1, F1, n1, cs1⟩) (r' := ⟨u', t1, F1, n2, cs2⟩) (by simpa using h2.1) hg hr hv
  rw [List.cons_append] at ht
  have hs := Heap.set (A := []) ht i u'
  refine ⟨⟨vs.set i u', ?_, ?_⟩, Chg.of_grown hg hS⟩
  · conv at h1 => rw [e, e']
    rw [valsD_append hlen] at h1
    rw [e, e', set_mid _ _ _ _ _ hl, set_mid _ _ _ _ _ hl', valsD_append hlen]
    exact ⟨h1.1, h1.2⟩
  · rw [hin']
    refine ⟨hs.1, fun r hr k hk => ?_⟩
    simp only [List.mem_cons, List.mem_append] at hr
    have hm := fun r hr => h2.2 r hr
    simp only [List.mem_cons, List.mem_append] at hm
    rcases hr with rfl | h3 | rfl | h3
    · exact .inl (hm _ (.inl rfl) k hk)
    · exact .inl (hm _ (.inr (.inl h3)) k hk)
    · rcases hv with e | e
      · exact .inl (hS k (by rw [← e]; exact hk))
      · exact .inr (e k hk)
    · exact .inl (hm _ (.inr (.inr (.inr h3))) k hk)
theorem PJ.grow {w1 : World} (h : PJ w κ g b cap vt t s r vc vl) (o : Nat) (ho : o < 18) {r' : J} {n1 n2 : Nat} {cs1 cs2 : List Value} {u u' : Value} (hx : (jobDat r)[o]? = some (.row 3 1 n1 cs1)) (hu : w.cell? ⟨b, t * 18 + o, none⟩ = some u)
    (he : jobDat r' = (jobDat r).set o (.row 3 1 n2 cs2)) (hg : w.grownBy w1 u.ownBlock) (hr : w1.ownsRow 0 3 1 u' n2 cs2) (hv : u'.ownBlock = u.ownBlock ∨ ∀ k, u'.ownBlock = some k → w.heap.size ≤ k) :
    ∃ κ', PJ (w1.setCell ⟨b, t * 18 + o, none⟩ u') κ' g b cap vt t s r' vc vl ∧ Mv κ κ' w (w1.setCell ⟨b, t * 18 + o, none⟩ u') := by
  have hjl : ({ s with jobs := s.jobs.set t r } : S).jobs.length = 4 := h.jl'
  have hdt : (datL jobDat (s.jobs.set t r))[t * 18 + o]? = some (.row 3 1 n1 cs1) := by
    rw [datL_at jobDat_len zeroJ (s.jobs.set t r) t o (by rw [h.jl']; exact h.tl) ho, h.job]; exact hx
  have hto : t * 18 + o < 4 * 18 := by have := h.tl; omega
  have hj : OwnS 50 18 4 w (fun k => κ k = 2) (.slice (some ⟨b, 0, none⟩) 4 cap) (datL jobDat (s.jobs.set t r)) := by
    have := h.wt.t.j
    rw [hjl] at this
    exact this
  have hkb : κ b = 2 := hj.blk
  have hgr := OwnS.grow hj hto hdt hu hg hr hv
  have hset : (datL jobDat (s.jobs.set t r)).set (t * 18 + o) (.row 3 1 n2 cs2) = datL jobDat (s.jobs.set t r') := by
    rw [← datL_set jobDat_len zeroJ (s.jobs.set t r) t o (by rw [h.jl']; exact h.tl) ho r' _ (by rw [h.job]; exact he), List.set_set]
  rw [hset] at hgr
  have hg1 : w1.grownBy (w1.setCell ⟨b, t * 18 + o, none⟩ u') (some b) := by
    obtain ⟨vs, h1, h2⟩ := hgr.1
    exact ⟨rfl, rfl, rfl, by simp, fun k _ hk => heap_setCell_other w1 ⟨b, t * 18 + o, none⟩ k u' (fun e => hk (by simp [e]))⟩
  have hc2 : Chg (fun k => κ k = 2) w (w1.setCell ⟨b, t * 18 + o, none⟩ u') := hgr.2.trans (Chg.of_grown hg1 (fun i hi => by injection hi with hi; subst hi; exact hkb))
  obtain ⟨κ', hw, hm⟩ := h.wt.jobsTo (js' := s.jobs.set t r') (vj' := .slice (some ⟨b, 0, none⟩) 4 cap) hc2 (fun k hk => .inl hk) (by rw [set_len, h.jl]; exact hgr.1) (fun k hk => hk)
  have h6 : κ' g = 6 := by rw [hm.old g h.blk.lt]; exact h.six
  exact ⟨κ', ⟨h.mv_blk hc2 (fun k hk => .inl (by have : κ k = 2 := hk; omega)), hw, h6, h.jl, h.tl⟩, hm⟩
end
end Go.Proofs.YtnlepnfdgdbkoaaGreatDoor
namespace Go.Proofs.YtnlepnfdgdbkoaaGreatDoor
open Go.RowKit M
set_option linter.unusedVariables false
set_option linter.unusedSimpArgs false
def PX (w : World) (κ : Nat → Nat) (g b cap : Nat) (vt : Value) (t : Nat) (p : S × J) (e : Ending) (w' : World) : Prop :=
  e = .returned (.tuple #[]) ∧ ∃ κ' vc vl, PJ w' κ' g b cap vt t p.1 p.2 vc vl ∧ Mv κ κ' w w'
def PXr (w : World) (κ : Nat → Nat) (g b cap : Nat) (vt : Value) (t : Nat) (p : S × J) (v : Value) (e : Ending) (w' : World) : Prop :=
  e = .returned v ∧ ∃ κ' vc vl, PJ w' κ' g b cap vt t p.1 p.2 vc vl ∧ Mv κ κ' w w'
theorem PJ.ints {w : World} {κ : Nat → Nat} {g b cap : Nat} {vt : Value} {t : Nat} {s : S} {r : J} {vc vl : Value} (h : PJ w κ g b cap vt t s r vc vl) (hn : s.cells.length = 71) : Ints w vc s.cells := by
  obtain ⟨c, cp, e, h1, h2, h3, h4, h5⟩ := h.wt.cells hn
  subst e
  have hlt := h.wt.lt c (by omega)
  refine ⟨c, 0, cp, by rw [hn], by rw [hn]; exact h1, h2, hlt, fun j hj => ?_⟩
  rw [Nat.zero_add]
  exact h4 j (by have : ({ s with jobs := s.jobs.set t r } : S).cells.length = s.cells.length := rfl; omega)
set_option maxRecDepth 100000 in
set_option maxHeartbeats 1600000 in
theorem iAddW_any (w : World) (κ : Nat → Nat) (g b cap : Nat) (vt : Value) (t : Nat) (s : S) (r : J) (vc vl : Value) (h : PJ w κ g b cap vt t s r vc vl) (hok : okC s.cells = true) (k : Nat) (n : Int) (hk : k < 71) (h0 : -281474976710655 ≤ n) (h1 : n ≤ 281474976710655) :
    Calls Tryz.prog 101 #[.pointer (some ⟨g, 0, none⟩), .int .i64 (k : Int), .int .i64 n] w (PXr w κ g b cap vt t (addCV s k n, r) (.int .i64 (cellV' s k))) := by
  have hl := okC_len hok
  have HA := Lib.hid (iAdd_any w vc s.cells k n (h.ints hl) (by omega) (by omega) (by omega))
  have HN := Lib.hid (add_at (n := n) hok (show (k : Int) = ((k : Nat) : Int) from rfl) hk h0 h1)
  have p0 : w.cell? ⟨g, 0, none⟩ = some vc := h.blk.get 0
  have HP := Lib.hid h
  clear h
  go_enter Tryz.func101, Tryz.ntmps101
  go_wp2_with fail
  refine HA.out.mono ?_
  rintro e w1 ⟨x, rfl, ho, hb1⟩
  rw [HN.out.1] at ho
  rw [HN.out.2]
  obtain ⟨ga, ca, rfl⟩ := ho.2
  have hq := HP.out.below hb1
  have f0 : w1.frozen? ⟨g, 0, none⟩ = false := hq.blk.frz 0
  have p1 : w1.cell? ⟨g, 0, none⟩ = some vc := hq.blk.get 0
  have HNC := Lib.hid (HP.out.newCells hb1 ho.1)
  have hln : (s.cells.set k (modW (s.cells.getD k 0 + n))).length = 71 := by rw [set_len]; exact hl
  rw [hln] at HNC ⊢
  have HS := Lib.hid (show addCV s k n = { s with cells := s.cells.set k (modW (s.cells.getD k 0 + n)) } by unfold addCV putV' cellV'; rw [Int.toNat_natCast])
  have HV := Lib.hid (show cellV' s k = s.cells.getD k 0 by unfold cellV'; rw [Int.toNat_natCast])
  generalize s.cells.getD k 0 = old at *
  clear hq ho hb1 HA p0 hln HN
  go_wp2_with fail
  go_ret
  obtain ⟨κ', h2, h3⟩ := HNC.out
  refine ⟨by rw [HV.out]; rfl, κ', .slice (some ⟨ga, 0, none⟩) 71 ca, vl, ?_, h3⟩
  show PJ (w1.setCell ⟨g, 0, none⟩ (.slice (some ⟨ga, 0, none⟩) 71 ca)) κ' g b cap vt t (addCV s k n) r (.slice (some ⟨ga, 0, none⟩) 71 ca) vl
  rw [HS.out]
  exact h2
end Go.Proofs.YtnlepnfdgdbkoaaGreatDoor
namespace Go.Proofs.YtnlepnfdgdbkoaaGreatDoor
open Go.RowKit M
set_option linter.unusedVariables false
set_option linter.unusedSimpArgs false
theorem putN_append (w : World) (g o : Nat) (us vs : List Value) : putN w g o (us ++ vs) = putN (putN w g o us) g (o + us.length) vs := by
  induction us generalizing w o with
  | nil => rfl
  | cons u us ih =>
    show putN (w.setCell ⟨g, o, none⟩ u) g (o + 1) (us ++ vs) = putN (putN (w.setCell ⟨g, o, none⟩ u) g (o + 1) us) g (o + (us.length + 1)) vs
    rw [ih, show o + 1 + us.length = o + (us.length + 1) by omega]
section
variable {t : TypeId} {F : Nat}
theorem OwnS.putN {n : Nat} {w : World} {S : Nat → Prop} {g cap : Nat} {D1 D3 : List Dat} (us xs : List Value) (hl : xs.length = us.length) (o : Nat) (ho : D1.length = o) (h : OwnS t F n w S (.slice (some ⟨g, 0, none⟩) n cap) (D1 ++ (xs.map Dat.val ++ D3))) :
    OwnS t F n (Go.Proofs.YtnlepnfdgdbkoaaGreatDoor.putN w g o us) S (.slice (some ⟨g, 0, none⟩) n cap) (D1 ++ (us.map Dat.val ++ D3)) ∧ Chg S w (Go.Proofs.YtnlepnfdgdbkoaaGreatDoor.putN w g o us) := by
  induction us generalizing w D1 o xs with
  | nil =>
    have e : xs = [] := List.length_eq_zero_iff.1 hl
    subst e
    exact ⟨h, Chg.refl _ _⟩
  | cons u us ih =>
    cases xs with
    | nil => simp at hl
    | cons x xs =>
      have hs := OwnS.set (i := o) (x := x) h (by rw [List.getElem?_append_right (by omega), ho, Nat.sub_self]; rfl) u
      have e : (D1 ++ ((x :: xs).map Dat.val ++ D3)).set o (.val u) = (D1 ++ [.val u]) ++ (xs.map Dat.val ++ D3) := by
        rw [List.set_append_right _ _ (by omega), ho, Nat.sub_self]
        simp
      rw [e] at hs
      have hi := ih (w := w.setCell ⟨g, o, none⟩ u) (D1 := D1 ++ [.val u]) xs (by simpa using hl) (o + 1) (by simp [ho]) hs.1
      refine ⟨?_, hs.2.trans hi.2⟩
      have := hi.1
      show OwnS t F n (Go.Proofs.YtnlepnfdgdbkoaaGreatDoor.putN (w.setCell ⟨g, o, none⟩ u) g (o + 1) us) S _ _
      simpa using this
end
def Inn (w : World) (κ : Nat → Nat) (p : Addr) (v : Value) (l l' : List Int) : Prop :=
  (w.cell? p = some v ∧ l' = l) ∨ (HeapS w (fun k => v.ownBlock = some k) [⟨v, 3, 1, l'.length, l'.map (Value.int .i64)⟩] ∧ ∀ k, v.ownBlock = some k → κ k = 0)
theorem Inn.nil {w : World} {κ : Nat → Nat} {p : Addr} {l : List Int} : Inn w κ p (.slice none 0 0) l [] :=
  .inr ⟨⟨Heap.one (r := ⟨.slice none 0 0, 3, 1, 0, []⟩) ⟨rfl, .inl ⟨rfl, rfl⟩⟩, fun r hr k hk => by rw [List.mem_singleton.1 hr] at hk; cases hk⟩, fun k hk => by cases hk⟩
theorem chg_one (w : World) (b i : Nat) (v : Value) (S : Nat → Prop) (hb : S b) : Chg S w (w.setCell ⟨b, i, none⟩ v) :=
  Chg.of_grown (row := some b) ⟨rfl, rfl, rfl, by simp, fun k _ hk => heap_setCell_other w ⟨b, i, none⟩ k v (fun e => hk (by simp [e]))⟩ (fun k hk => by injection hk with hk; subst hk; exact hb)
def jobPlain (r : J) : List Value := [.bool r.busy, .int .i64 r.op.kind, .string r.op.key, .int .i64 r.op.what, .int .i64 r.op.val, .int .i64 r.serial, .int .i64 r.pc, .int .i64 r.k, .int .i64 r.slot, .int .i64 r.what, .int .i64 r.e, .int .i64 r.stamp, .int .i64 r.old, .int .i64 r.flips, .int .i64 r.steps, .int .i64 r.code]
theorem jobDat_eq (r : J) : jobDat r = (jobPlain r).map Dat.val ++ [.row 3 1 r.keys.length (r.keys.map (Value.int .i64)), .row 3 1 r.raw.length (r.raw.map (Value.int .i64))] := rfl
theorem jobVals_eq (r : J) (vk vr : Value) : (jobVals r vk vr).toList = jobPlain r ++ [vk, vr] := rfl
theorem cell_putN_off (w : World) (g o : Nat) (us : List Value) (j : Nat) (hj : o + us.length ≤ j) : (putN w g o us).cell? ⟨g, j, none⟩ = w.cell? ⟨g, j, none⟩ := by
  induction us generalizing w o with
  | nil => rfl
  | cons u us ih =>
    simp only [List.length_cons] at hj
    show (putN (w.setCell ⟨g, o, none⟩ u) g (o + 1) us).cell? ⟨g, j, none⟩ = _
    rw [ih _ _ (by omega)]
    exact World.cell?_setCell_other _ _ _ _ (fun e => by injection e with e1 e2; omega)
theorem OwnS.inn {w : World} {κ : Nat → Nat} {S : Nat → Prop} {b n cap i : Nat} {ds : List Dat} {l l' : List Int} {v : Value} (h : OwnS 50 18 n w S (.slice (some ⟨b, 0, none⟩) n cap) ds) (hi : i < n * 18)
    (hd : ds[i]? = some (.row 3 1 l.length (l.map (Value.int .i64)))) (hv : Inn w κ ⟨b, i, none⟩ v l l') (hdis : ∀ k, S k → κ k ≠ 0 ∨ v.ownBlock ≠ some k) :
    OwnS 50 18 n (w.setCell ⟨b, i, none⟩ v) (fun k => S k ∨ (v.ownBlock = some k ∧ κ k = 0)) (.slice (some ⟨b, 0, none⟩) n cap) (ds.set i (.row 3 1 l'.length (l'.map (Value.int .i64)))) ∧ Chg S w (w.setCell ⟨b, i, none⟩ v) := by
  rcases hv with ⟨hc, e⟩ | ⟨hh, hk⟩
  · subst e
    have ha := OwnS.again h hi hc
    refine ⟨?_, ha.2⟩
    have e2 : ds.set i (.row 3 1 l'.length (l'.map (Value.int .i64))) = ds := by
      obtain ⟨hlt, e3⟩ := List.getElem?_eq_some_iff.1 hd
      rw [← e3]
      exact List.set_getElem_self hlt
    rw [e2]
    exact ha.1.mono (fun k hk => .inl hk)
  · have hs := OwnS.swap h hd hh (fun k h1 h2 => by
      rcases hdis k h1 with h3 | h3
      · exact h3 (hk k h2)
      · exact h3 h2)
    exact ⟨hs.1.mono (fun k hk' => by
      rcases hk' with h1 | h1
      · exact .inl h1
      · exact .inr ⟨h1, hk k h1⟩), hs.2⟩
theorem Inn.chg {w w' : World} {κ : Nat → Nat} {p : Addr} {v : Value} {l l' : List Int} {T : Nat → Prop} (h : Inn w κ p v l l') (hp : w'.cell? p = w.cell? p) (hc : Chg T w w') (hT : ∀ k, T k → κ k ≠ 0 ∨ v.ownBlock ≠ some k) : Inn w' κ p v l l' := by
  rcases h with ⟨h1, h2⟩ | ⟨h1, h2⟩
  · exact .inl ⟨hp.trans h1, h2⟩
  · exact .inr ⟨h1.chg hc (fun k hk ht => by
      rcases hT k ht with h3 | h3
      · exact h3 (h2 k hk)
      · exact h3 hk), h2⟩
set_option maxHeartbeats 1600000 in
theorem WT.jobPut {w : World} {κ : Nat → Nat} {s : S} {vc vt vl : Value} {b n cap : Nat} (h : WT w κ s vc (.slice (some ⟨b, 0, none⟩) n cap) vt vl) (hn : s.jobs.length = n) (t : Nat) (ht : t < n) (r' : J) (vk vr : Value)
    (hk : Inn w κ ⟨b, t * 18 + 16, none⟩ vk (s.jobs.getD t zeroJ).keys r'.keys) (hr : Inn w κ ⟨b, t * 18 + 17, none⟩ vr (s.jobs.getD t zeroJ).raw r'.raw) (hkr : ∀ k, κ k = 0 → vk.ownBlock = some k → vr.ownBlock ≠ some k) :
    ∃ κ', WT (w.setCells b (t * 18) (jobVals r' vk vr).toList) κ' { s with jobs := s.jobs.set t r' } vc (.slice (some ⟨b, 0, none⟩) n cap) vt vl ∧ MvR (fun k => κ k = 0 ∧ (vk.ownBlock = some k ∨ vr.ownBlock = some k)) κ κ' w (w.setCells b (t * 18) (jobVals r' vk vr).toList) ∧ Chg (fun k => κ k = 2) w (w.setCells b (t * 18) (jobVals r' vk vr).toList) := by
  subst hn
  obtain ⟨e1, e2, e3⟩ := datL_mid jobDat_len zeroJ s.jobs t ht
  have h0 := h.t.j
  rw [e1, jobDat_eq, List.append_assoc] at h0
  have hp := OwnS.putN (jobPlain r') (jobPlain (s.jobs.getD t zeroJ)) rfl (t * 18) e3 h0
  have hlen : ∀ r : J, (jobPlain r).length = 16 := fun _ => rfl
  have hi16 : t * 18 + 16 < s.jobs.length * 18 := by omega
  have hi17 : t * 18 + 17 < s.jobs.length * 18 := by omega
  generalize hD1 : datL jobDat (s.jobs.take t) = D1 at *
  generalize hD2 : datL jobDat (s.jobs.drop (t + 1)) = D2 at *
  have at16 : ∀ (a b : Dat), (D1 ++ ((jobPlain r').map Dat.val ++ ([a, b] ++ D2)))[t * 18 + 16]? = some a := fun a b => by
    rw [List.getElem?_append_right (by omega), e3, Nat.add_sub_cancel_left, List.getElem?_append_right (by simp [hlen]), List.length_map, hlen]
    rfl
  have set16 : ∀ (a b c : Dat), (D1 ++ ((jobPlain r').map Dat.val ++ ([a, b] ++ D2))).set (t * 18 + 16) c = D1 ++ ((jobPlain r').map Dat.val ++ ([c, b] ++ D2)) := fun a b c => by
    rw [List.set_append_right _ _ (by omega), e3, Nat.add_sub_cancel_left, List.set_append_right _ _ (by simp [hlen]), List.length_map, hlen]
    rfl
  have at17 : ∀ (a b : Dat), (D1 ++ ((jobPlain r').map Dat.val ++ ([a, b] ++ D2)))[t * 18 + 17]? = some b := fun a b => by
    rw [List.getElem?_append_right (by omega), e3, Nat.add_sub_cancel_left, List.getElem?_append_right (by simp [hlen]), List.length_map, hlen]
    rfl
  have set17 : ∀ (a b c : Dat), (D1 ++ ((jobPlain r').map Dat.val ++ ([a, b] ++ D2))).set (t * 18 + 17) c = D1 ++ ((jobPlain r').map Dat.val ++ ([a, c] ++ D2)) := fun a b c => by
    rw [List.set_append_right _ _ (by omega), e3, Nat.add_sub_cancel_left, List.set_append_right _ _ (by simp [hlen]), List.length_map, hlen]
    rfl
  have hk1 := hk.chg (cell_putN_off w b (t * 18) (jobPlain r') (t * 18 + 16) (by rw [hlen]; omega)) hp.2 (fun k h2 => .inl (by have : κ k = 2 := h2; omega))
  have hr1 := hr.chg (cell_putN_off w b (t * 18) (jobPlain r') (t * 18 + 17) (by rw [hlen]; omega)) hp.2 (fun k h2 => .inl (by have : κ k = 2 := h2; omega))
  have h16 := OwnS.inn hp.1 hi16 (at16 _ _) hk1 (fun k h2 => .inl (by have : κ k = 2 := h2; omega))
  rw [set16] at h16
  have hr2 := hr1.chg (p := ⟨b, t * 18 + 17, none⟩) (w' := (putN w b (t * 18) (jobPlain r')).setCell ⟨b, t * 18 + 16, none⟩ vk) (World.cell?_setCell_other _ _ _ _ (fun e => by injection e with e1 e2; omega)) h16.2 (fun k h2 => .inl (by have : κ k = 2 := h2; omega))
  have h17 := OwnS.inn h16.1 hi17 (at17 _ _) hr2 (fun k h2 => by
    rcases h2 with h2 | ⟨h2, h3⟩
    · exact .inl (by have : κ k = 2 := h2; omega)
    · exact .inr (hkr k h3 h2))
  rw [set17] at h17
  have hw : w.setCells b (t * 18) (jobVals r' vk vr).toList = ((putN w b (t * 18) (jobPlain r')).setCell ⟨b, t * 18 + 16, none⟩ vk).setCell ⟨b, t * 18 + 17, none⟩ vr := by
    rw [setCells_putN, jobVals_eq, putN_append, hlen]
    rfl
  have hcg2 := (hp.2.trans h16.2).trans (chg_one ((putN w b (t * 18) (jobPlain r')).setCell ⟨b, t * 18 + 16, none⟩ vk) b (t * 18 + 17) vr (fun k => κ k = 2) h.t.j.blk)
  rw [hw]
  obtain ⟨κ', g1, g2, g3, g4⟩ := turned (R := fun k => κ k = 0 ∧ (vk.ownBlock = some k ∨ vr.ownBlock = some k)) 2 (by decide) h.lt hcg2 (fun k hk => hk.1) (fun k hk => .inl hk)
    (F := fun k => ((κ k = 2 ∨ (vk.ownBlock = some k ∧ κ k = 0)) ∨ (vr.ownBlock = some k ∧ κ k = 0))) (fun k hk => by
      rcases hk with (hk | hk) | hk
      · exact .inl (.inl hk)
      · exact .inr ⟨hk.2, .inl hk.1⟩
      · exact .inr ⟨hk.2, .inr hk.1⟩)
  have hkp : ∀ (j : Nat) (hj : j ≠ 0) (k : Nat) (hk : κ k = j), κ' k = j := fun j hj k hk => by rw [g2 k (by omega)]; exact hk
  have hT : ∀ k, κ k = 2 → κ k = 2 ∨ w.heap.size ≤ k := fun k hk => .inl hk
  refine ⟨κ', ⟨⟨(h.t.c.chg hcg2 (apart h hT 1 (by decide) (by decide))).mono (hkp 1 (by decide)), ?_, TodoS.mono (h.t.t.chg hcg2 (apart h hT 3 (by decide) (by decide)) (apart h hT 4 (by decide) (by decide))) (hkp 3 (by decide)) (hkp 4 (by decide)), (h.t.l.chg hcg2 (apart h hT 5 (by decide) (by decide))).mono (hkp 5 (by decide))⟩, g3⟩, g4, hcg2⟩
  show OwnS 50 18 (s.jobs.set t r').length _ _ _ (datL jobDat (s.jobs.set t r'))
  rw [set_len, e2 r', jobDat_eq r', List.append_assoc]
  exact h17.1.inlt.mono (fun k hk => g1 k hk.1 hk.2)
end Go.Proofs.YtnlepnfdgdbkoaaGreatDoor
namespace Go.Proofs.YtnlepnfdgdbkoaaGreatDoor
open Go.RowKit M
set_option linter.unusedVariables false
set_option linter.unusedSimpArgs false
structure Mw (κ κ' : Nat → Nat) (w w' : World) : Prop extends Mv κ κ' w w' where
  jk : ∀ k, κ k = 2 → k < w.heap.size → w'.heap[k]? = w.heap[k]?
theorem Mw.refl (κ : Nat → Nat) (w : World) : Mw κ κ w w := ⟨Mv.refl κ w, fun _ _ _ => rfl⟩
theorem Mw.of_below {κ : Nat → Nat} {a b : World} (h : Below a.heap.size a b) : Mw κ κ a b := ⟨Mv.of_below h, fun k _ hk => h.block k hk⟩
theorem Mw.thn {κ κ' : Nat → Nat} {a b c : World} (h : Mw κ κ' a b) (k : Below a.heap.size b c) : Mw κ κ' a c := ⟨h.toMv.thn k, fun i hi hl => (k.block i hl).trans (h.jk i hi hl)⟩
theorem Mw.trans {κ κ' κ'' : Nat → Nat} {a b c : World} (h : Mw κ κ' a b) (k : Mw κ' κ'' b c) : Mw κ κ'' a c :=
  ⟨h.toMv.trans k.toMv, fun i hi hl => (k.jk i ((h.old i hl).trans hi) (Nat.lt_of_lt_of_le hl h.toMv.size)).trans (h.jk i hi hl)⟩
theorem Mw.size {κ κ' : Nat → Nat} {w w' : World} (h : Mw κ κ' w w') : w.heap.size ≤ w'.heap.size := h.toMv.size
theorem Mw.cell {κ κ' : Nat → Nat} {w w' : World} (h : Mw κ κ' w w') {b i : Nat} {v : Value} (hb : κ b = 2) (hc : w.cell? ⟨b, i, none⟩ = some v) : w'.cell? ⟨b, i, none⟩ = some v := by
  have hl : b < w.heap.size := by
    rcases Nat.lt_or_ge b w.heap.size with h1 | h1
    · exact h1
    · unfold World.cell? at hc
      rw [Array.getElem?_eq_none h1] at hc
      cases hc
  rw [← hc]
  unfold World.cell?
  simp only [h.jk b hb hl]
structure Loc (w0 : World) (κ0 κ : Nat → Nat) (X : World) (cw cj zw zj : Array Value) (s : S) (vc vj vt vl : Value) : Prop where
  g0 : Blk X w0.heap.size 33 cw
  g1 : Blk X (w0.heap.size + 1) 50 cj
  g2 : Blk X (w0.heap.size + 2) 33 zw
  g3 : Blk X (w0.heap.size + 3) 50 zj
  wt : WT X κ s vc vj vt vl
  mv : Mw κ0 κ w0 X
  z : ∀ i, i < 4 → κ (w0.heap.size + i) = 0
section
variable {w0 : World} {κ0 κ : Nat → Nat} {X : World} {cw cj zw zj : Array Value} {s : S} {vc vj vt vl : Value}
theorem Loc.z0 (h : Loc w0 κ0 κ X cw cj zw zj s vc vj vt vl) : κ w0.heap.size = 0 := h.z 0 (by decide)
theorem Loc.size (h : Loc w0 κ0 κ X cw cj zw zj s vc vj vt vl) : w0.heap.size + 4 ≤ X.heap.size := h.g3.lt
theorem Loc.enter {w : World} (h : WT w κ s vc vj vt vl) : Loc w κ κ ((((w.alloc (.cells cw 33)).alloc (.cells cj 50)).alloc (.cells zw 33)).alloc (.cells zj 50)) cw cj zw zj s vc vj vt vl := by
  have hb : Below w.heap.size w ((((w.alloc (.cells cw 33)).alloc (.cells cj 50)).alloc (.cells zw 33)).alloc (.cells zj 50)) :=
    ((((Below.refl _ _).alloc (Nat.le_refl _) _).alloc (by simp [go_sem]) _).alloc (by simp [go_sem]; omega) _).alloc (by simp [go_sem]; omega) _
  exact ⟨(((Blk.new w _ _ _ rfl).alloc _).alloc _).alloc _, ((Blk.new _ _ _ _ (by simp [go_sem])).alloc _).alloc _, (Blk.new _ _ _ _ (by simp [go_sem])).alloc _, Blk.new _ _ _ _ (by simp [go_sem]), h.below hb, Mw.of_below hb, fun i _ => h.new0 (Nat.le_add_right _ _)⟩
theorem Loc.below {X' : World} (h : Loc w0 κ0 κ X cw cj zw zj s vc vj vt vl) (hb : Below X.heap.size X X') : Loc w0 κ0 κ X' cw cj zw zj s vc vj vt vl :=
  ⟨h.g0.below hb, h.g1.below hb, h.g2.below hb, h.g3.below hb, h.wt.below hb, h.mv.thn (hb.mono h.mv.size), h.z⟩
theorem Loc.drew (h : Loc w0 κ0 κ X cw cj zw zj s vc vj vt vl) : Loc w0 κ0 κ X.drew cw cj zw zj s vc vj vt vl := h.below (below_drew _ _)
theorem Loc.fld (h : Loc w0 κ0 κ X cw cj zw zj s vc vj vt vl) (i : Nat) (v : Value) : Loc w0 κ0 κ (X.setCell ⟨w0.heap.size + 1, i, none⟩ v) cw (cj.setIfInBounds i v) zw zj s vc vj vt vl :=
  ⟨h.g0.far _ _ _ (by omega), h.g1.store i v, h.g2.far _ _ _ (by omega), h.g3.far _ _ _ (by omega), h.wt.store h.g1 (.inl (h.z 1 (by decide))) i v, h.mv.thn ((Below.refl _ _).setCell (p := ⟨w0.heap.size + 1, i, none⟩) (show w0.heap.size ≤ w0.heap.size + 1 by omega) _), h.z⟩
theorem Loc.call {X' : World} {κ' : Nat → Nat} {s' : S} {vc' vj' vt' vl' : Value} (h : Loc w0 κ0 κ X cw cj zw zj s vc vj vt vl) (hm : Mw κ κ' X X') (hw : WT X' κ' s' vc' vj' vt' vl') : Loc w0 κ0 κ' X' cw cj zw zj s' vc' vj' vt' vl' :=
  ⟨h.g0.mv hm.toMv h.z0, h.g1.mv hm.toMv (h.z 1 (by decide)), h.g2.mv hm.toMv (h.z 2 (by decide)), h.g3.mv hm.toMv (h.z 3 (by decide)), hw, h.mv.trans hm, fun i hi => by rw [hm.old _ (by have := h.size; omega)]; exact h.z i hi⟩
end
theorem WT.one {w : World} {κ : Nat → Nat} {s : S} {vc vj vt vl : Value} (h : WT w κ s vc vj vt vl) : Array.all (worVals s vc vj vt vl) (·.oneCell') = true := by
  obtain ⟨_, _, e1⟩ := Rw.slice (h.t.c.1.own _ List.mem_cons_self)
  obtain ⟨vs', _, hj2⟩ := h.t.j
  obtain ⟨_, _, e2⟩ := Rw.slice (hj2.1.own _ List.mem_cons_self)
  obtain ⟨_, _, e3⟩ := h.t.t.slice
  obtain ⟨vs4, _, hj4⟩ := h.t.l
  obtain ⟨_, _, e4⟩ := Rw.slice (hj4.1.own _ List.mem_cons_self)
  rw [e1, e2, e3, e4]
  simp [worVals, Value.oneCell']
end Go.Proofs.YtnlepnfdgdbkoaaGreatDoor
