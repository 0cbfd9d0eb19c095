/-
  A statement that draws its order, whose last operation (a store) waits for all others, while those only read (their calls may make memory): walked once, in the text's order, over a class of worlds; then the last one.
-/
import Derived.Test.YtfmmhfipibaghaaHq
namespace Go.Proofs.Ytfmmhfipibaghaa
open Go.RowKit
set_option linter.unusedVariables false
/-- A class of worlds, behind a structure. -/
structure HoldsC (F : World → Prop) (w : World) : Prop where
  out : F w
section
variable {P : Program} {md : Region.Mode} {ops : Array Oper} {C : World → Prop}
/-- Whatever order is picked, till the first n are listed. -/
def wpPre (P : Program) (md : Region.Mode) (ops : Array Oper) (C : World → Prop) (n : Nat) (Q : Array Bool → Act → Prop) : Nat → Array Bool → Act → Prop
  | 0, listed, a => (∀ k, k < n → listed.getD k true = true) ∧ Q listed a
  | fuel + 1, listed, a => Region.ready md ops listed ≠ [] ∧ ∀ i ∈ Region.ready md ops listed, qOp P ops C i (wpPre P md ops C n Q fuel (listed.setIfInBounds i true)) a
theorem wpAny_of_pre {n m : Nat} {Q : Array Bool → Act → Prop} {Q' : Exit → Act → World → Prop} (hQ : ∀ listed a w, C w → Q listed a → wpAny P md ops Q' m listed a w) : ∀ (fuel : Nat) (listed : Array Bool) (a : Act) (w : World), C w →
    wpPre P md ops C n Q fuel listed a → wpAny P md ops Q' (fuel + m) listed a w
  | 0, _, _, _, hw, h => by rw [Nat.zero_add]; exact hQ _ _ _ hw h.2
  | fuel + 1, _, _, _, hw, h => by
    rw [show fuel + 1 + m = (fuel + m) + 1 by omega]
    exact ⟨fun h0 => absurd h0 h.1, fun i hi => wpOp_of_qOp hw (fun a' w' hw' => wpAny_of_pre hQ fuel _ a' w' hw') (h.2 i hi)⟩
theorem getD_set_self {listed : Array Bool} {i : Nat} : (listed.setIfInBounds i true).getD i true = true := by
  simp only [Array.getD_eq_getD_getElem?, Array.getElem?_setIfInBounds]
  split
  · split <;> rfl
  · contradiction
theorem wpPre_first {n : Nat} {Q : Array Bool → Act → Prop} {i : Nat} {oi : Oper} {v : Value} (hi : ops[i]? = some oi) (hin : i < n) (hsel : ∀ (j : Nat) (o : Oper) cs b, ops[j]? = some o → o.op ≠ .select cs b)
    (hpost : ∀ j oj, ops[j]? = some oj → n ≤ j → ∀ k, k < n → ∃ e ∈ oj.after, Region.binds md e = true ∧ e.on = k) :
    ∀ (fuel : Nat) (listed : Array Bool) (a : Act),
      (∀ j oj, ops[j]? = some oj → j ≠ i → listed.getD j true = false → (∀ e ∈ oj.after, Region.binds md e = true → e.on ≠ i) → oi.apart ops oj = true) →
      i ∈ Region.ready md ops listed → YieldsIn P ops C oi v a →
      wpPre P md ops C n Q fuel (listed.setIfInBounds i true) (a.put oi.dst v) → wpPre P md ops C n Q (fuel + 1) listed a := by
  have hun : ∀ {listed : Array Bool} {j : Nat}, i ∈ Region.ready md ops listed → j ∈ Region.ready md ops listed → n ≤ j → False := by
    intro listed j hr hj hnj
    obtain ⟨_, oj, hoj, hall⟩ := mem_ready.1 hj
    obtain ⟨e, he, hb, rfl⟩ := hpost j oj hoj hnj i hin
    have h1 := hall e he hb
    have h0 := (mem_ready.1 hr).1
    rcases Nat.lt_or_ge e.on listed.size with h' | h'
    · simp [h'] at h0 h1; rw [h0] at h1; cases h1
    · simp [Array.getElem?_eq_none h'] at h1
  intro fuel
  induction fuel with
  | zero =>
    intro listed a _ hr hy H
    refine ⟨fun h => (by rw [h] at hr; cases hr), fun j hj => ?_⟩
    by_cases hji : j = i
    · subst hji; exact hy.qOp hi H
    · exfalso
      rcases Nat.lt_or_ge j n with h1 | h1
      · have h2 := H.1 j h1
        rw [getD_set_ne true (Ne.symm hji), (mem_ready.1 hj).1] at h2
        cases h2
      · exact hun hr hj h1
  | succ fuel ih =>
    intro listed a hfree hr hy H
    refine ⟨fun h => (by rw [h] at hr; cases hr), fun j hj => ?_⟩
    by_cases hji : j = i
    · subst hji; exact hy.qOp hi H
    · have h1 := H.2 j (ready_mono hj hji)
      obtain ⟨hjun, oj, hoj, hall⟩ := mem_ready.1 hj
      have hnot : ∀ e ∈ oj.after, Region.binds md e = true → e.on ≠ i := fun e he hb heq => by
        have h1 := hall e he hb
        have h0 := (mem_ready.1 hr).1
        rw [heq] at h1
        rcases Nat.lt_or_ge i listed.size with h' | h'
        · simp [h'] at h0 h1; rw [h0] at h1; cases h1
        · simp [Array.getElem?_eq_none h'] at h1
      have h2 := qOp_put hoj (hfree j oj hoj hji hjun hnot) (fun cs b => hsel i oi cs b hi) (fun cs b => hsel j oj cs b hoj) hy h1
      have hfree' : ∀ k ok, ops[k]? = some ok → k ≠ i → (listed.setIfInBounds j true).getD k true = false →
          (∀ e ∈ ok.after, Region.binds md e = true → e.on ≠ i) → oi.apart ops ok = true := fun k ok hk hki hun hno => by
        refine hfree k ok hk hki ?_ hno
        by_cases hjk : j = k
        · subst hjk; exact hjun
        · rw [getD_set_ne true hjk] at hun; exact hun
      refine qOp_mono (fun a' h3 => ih (listed.setIfInBounds j true) a' hfree' (ready_mono hr (Ne.symm hji)) h3.1 ?_) h2
      rw [Array.setIfInBounds_comm _ _ hji]
      exact h3.2
/-- The first so many may be taken in the text's order; when they are listed, what is ready is the last one. -/
def preB (md : Region.Mode) (ops : Array Oper) (n : Nat) : Nat → Nat → Array Bool → Bool
  | 0, k, listed => ((List.range n).all fun j => listed.getD j true) && (Region.ready md ops listed == [n]) && (Region.ready md ops (listed.setIfInBounds n true)).isEmpty
  | fuel + 1, k, listed => decide (k < n) && ((Region.ready md ops listed).contains k && Region.free md ops listed k && preB md ops n fuel (k + 1) (listed.setIfInBounds k true))
def postB (md : Region.Mode) (ops : Array Oper) (n : Nat) : Bool := (List.range ops.size).all fun j => decide (j < n) || match ops[j]? with
  | some o => (List.range n).all fun k => o.after.any fun e => Region.binds md e && e.on == k
  | none => true
def tailB (md : Region.Mode) (ops : Array Oper) (n : Nat) : Bool := Region.noSelect ops && (postB md ops n && (decide (ops.size = n + 1) && preB md ops n n 0 (Array.replicate ops.size false)))
theorem post_spec {n : Nat} (h : postB md ops n = true) (j : Nat) (oj : Oper) (hj : ops[j]? = some oj) (hn : n ≤ j) (k : Nat) (hk : k < n) : ∃ e ∈ oj.after, Region.binds md e = true ∧ e.on = k := by
  unfold postB at h
  rw [List.all_eq_true] at h
  have h1 := h j (List.mem_range.2 (Array.getElem?_eq_some_iff.1 hj).1)
  rw [hj, decide_eq_false (by omega), Bool.false_or] at h1
  simp only [List.all_eq_true] at h1
  have h2 := h1 k (List.mem_range.2 hk)
  rw [Array.any_eq_true] at h2
  obtain ⟨i, hi, h3⟩ := h2
  rw [Bool.and_eq_true, beq_iff_eq] at h3
  exact ⟨oj.after[i], Array.getElem_mem hi, h3.1, h3.2⟩
theorem wpPre_lex {n : Nat} {Q : Act → Prop} (hs : Region.noSelect ops = true) (hp : postB md ops n = true) : ∀ (l : List Oper) (k : Nat) (listed : Array Bool) (a : Act), (∀ j, j < l.length → l[j]? = ops[k + j]?) →
    preB md ops n l.length k listed = true → wpQuiet P ops C Q l a → wpPre P md ops C n (fun listed a => (Region.ready md ops listed = [n] ∧ Region.ready md ops (listed.setIfInBounds n true) = []) ∧ Q a) l.length listed a
  | [], _, _, _, _, hB, h => by
    simp only [List.length_nil, preB, Bool.and_eq_true, List.all_eq_true, List.mem_range, beq_iff_eq, List.isEmpty_iff] at hB
    exact ⟨hB.1.1, ⟨hB.1.2, hB.2⟩, h⟩
  | o :: l, k, listed, a, hl, hB, h => by
    have h0 : ops[k]? = some o := by simpa using (hl 0 (by simp)).symm
    simp only [List.length_cons, preB, Bool.and_eq_true, decide_eq_true_eq] at hB
    obtain ⟨hk, ⟨hr, hf⟩, hB'⟩ := hB
    have hst : qOp P ops C k (wpQuiet P ops C Q l) a := by unfold qOp; simp only [h0]; exact h
    obtain ⟨v, hy, hK⟩ := yieldsIn_of_qOp h0 hst
    exact wpPre_first h0 hk (Region.noSelect_spec hs) (post_spec hp) l.length listed a (Region.free_spec h0 hf) (by simpa using hr) hy
      (wpPre_lex hs hp l (k + 1) _ _ (fun j hj => by have := hl (j + 1) (by simpa using hj); simpa [Nat.add_assoc, Nat.add_comm 1 j] using this) hB' hK)
end
/-- The walk of all but the last operation, then the last one in whatever world of the class. -/
theorem wp_region_tail {P : Program} {C : World → Prop} {id : Nat} {Q : Exit → Act → World → Prop} {a : Act} {w : World} {l : List Oper} {o : Oper} (hm : P.follows .mixedOrders = true) (hB : tailB .any (l ++ [o]).toArray l.length = true) (hC : C w.drew)
    (h : WQ P (l ++ [o]).toArray C (fun a' => ∀ w', C w' → (Region.wanted o (yielded (l ++ [o]).toArray a'.tmps) = true ∧ o.wp P a' w' (fun a'' w'' => Q .normal a'' w'') Q)) l a) : (Code.region id (l ++ [o]).toArray true).wp P Q a w := by
  simp only [tailB, Bool.and_eq_true, decide_eq_true_eq] at hB
  obtain ⟨hs, hp, hz, hpre⟩ := hB
  refine wp_region_any hm ?_
  rw [hz]
  rw [hz] at hpre
  refine wpAny_of_pre (C := C) (m := 1) (Q := fun listed a' => (Region.ready .any (l ++ [o]).toArray listed = [l.length] ∧ Region.ready .any (l ++ [o]).toArray (listed.setIfInBounds l.length true) = []) ∧ ∀ w', C w' → (Region.wanted o (yielded (l ++ [o]).toArray a'.tmps) = true ∧ o.wp P a' w' (fun a'' w'' => Q .normal a'' w'') Q)) ?_ l.length _ _ _ hC
    (wpPre_lex hs hp l 0 _ a (fun j hj => by rw [Nat.zero_add]; simp [List.getElem?_append_left hj]) hpre h.run)
  intro listed a' w' hw ⟨⟨hr, hr2⟩, hq⟩
  obtain ⟨h1, h2⟩ := hq w' hw
  refine ⟨fun h0 => (by rw [hr] at h0; cases h0), fun i hi => ?_⟩
  rw [hr] at hi
  obtain rfl : i = l.length := by simpa using hi
  unfold wpOp
  have ho : (l ++ [o]).toArray[l.length]? = some o := by simp
  simp only [ho, h1, if_true]
  refine .inl ?_
  have hK : (wpAny P .any (l ++ [o]).toArray Q 0 (listed.setIfInBounds l.length true)) = fun a'' w'' => Q .normal a'' w'' := by
    funext a'' w''
    unfold wpAny
    simp only [hr2, true_and]
  rw [hK]
  exact h2
/-- The same at a region written out. -/
theorem wp_region_tail_lit {P : Program} {C : World → Prop} {id : Nat} {Q : Exit → Act → World → Prop} {a : Act} {w : World} {L : List Oper} {o : Oper} (hm : P.follows .mixedOrders = true) (hB : tailB .any L.toArray (L.length - 1) = true) (ho : L.getLast? = some o) (hC : C w.drew)
    (h : WQ P L.toArray C (fun a' => ∀ w', C w' → (Region.wanted o (yielded L.toArray a'.tmps) = true ∧ o.wp P a' w' (fun a'' w'' => Q .normal a'' w'') Q)) L.dropLast a) : (Code.region id L.toArray true).wp P Q a w := by
  have e : L = L.dropLast ++ [o] := by
    cases L with
    | nil => cases ho
    | cons x l =>
      rw [List.getLast?_eq_some_getLast (by simp)] at ho
      injection ho with ho
      rw [← ho]; exact (List.dropLast_concat_getLast (by simp)).symm
  have hn : L.length - 1 = L.dropLast.length := by rw [List.length_dropLast]
  rw [hn] at hB
  generalize L.dropLast = l at *
  subst e
  exact wp_region_tail hm hB hC h
end Go.Proofs.Ytfmmhfipibaghaa
