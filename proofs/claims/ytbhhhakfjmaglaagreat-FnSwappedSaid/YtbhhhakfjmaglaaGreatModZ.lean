/-
  Chapter 13 in plain words: an operation keeps a valid model valid; the kind of a key is permanent; a flush reports all and leaves none.
-/
import Derived.Test.YtbhhhakfjmaglaaGreatZb
import Derived.Test.YtbhhhakfjmaglaaGreatRowF
namespace Go.Proofs.YtbhhhakfjmaglaaGreat
open Go.RowKit M
set_option linter.unusedVariables false
theorem tag_ne {s : ByteArray} {k : Int} : tagV s k ≠ 0 ↔ keyOkV s = true ∧ 1 ≤ k ∧ k ≤ 3 := by
  unfold tagV
  constructor
  · intro h
    by_cases c : keyOkV s = true ∧ (1 ≤ k ∧ k ≤ 3)
    · exact c
    · rw [if_neg c] at h; exact absurd rfl h
  · intro h
    rw [if_pos h]
    have := h.2.1
    omega
theorem getD_memK {l : List KR} {j : Nat} (hj : j < l.length) : l.getD j zeroKR ∈ l := by
  rw [List.getD_eq_getElem?_getD, List.getElem?_eq_getElem hj]; exact List.getElem_mem hj
theorem keysOk_of {l : List KR} (ha : Asc (l.map kr)) (ht : ∀ k ∈ l, tagV k.key k.kind ≠ 0) : keysOkV l = true := by
  unfold keysOkV
  rw [List.all_eq_true]
  intro i hi
  have hi := List.mem_range.1 hi
  unfold kBad
  rw [decide_eq_false (ht _ (getD_memK hi)), Bool.false_or, strLe_lt]
  cases i with
  | zero => rfl
  | succ i =>
    have := List.pairwise_iff_getElem.1 ha i (i + 1) (by rw [List.length_map]; omega) (by rw [List.length_map]; exact hi) (by omega)
    have e : ∀ k (hk : k < l.length), (l.map kr)[k]'(by rw [List.length_map]; exact hk) = kr (l.getD k zeroKR) := fun k hk => by rw [List.getElem_map, List.getD_eq_getElem?_getD, List.getElem?_eq_getElem hk]; rfl
    rw [e i (by omega), e (i + 1) hi] at this
    have h2 : strLt (l.getD i zeroKR).key (l.getD (i + 1) zeroKR).key = true := this
    rw [Nat.add_sub_cancel, h2]
    simp
theorem keys_tag {l : List KR} (h : keysOkV l = true) : ∀ k ∈ l, tagV k.key k.kind ≠ 0 := fun k hk => by
  obtain ⟨i, hi, rfl⟩ := List.getElem_of_mem hk
  have := keysOk_at h i hi
  unfold kBad at this
  rw [Bool.or_eq_false_iff, decide_eq_false_iff_not, List.getD_eq_getElem?_getD, List.getElem?_eq_getElem hi] at this
  exact this.1
theorem mem_ins {x y : R} {l : List R} : y ∈ insV x l ↔ y = x ∨ y ∈ l := by
  induction l with
  | nil => simp [insV]
  | cons z l ih =>
    unfold insV
    split
    · simp
    · rw [List.mem_cons, ih, List.mem_cons]
      constructor
      · rintro (h | h | h)
        · exact .inr (.inl h)
        · exact .inl h
        · exact .inr (.inr h)
      · rintro (h | h | h)
        · exact .inr (.inl h)
        · exact .inl h
        · exact .inr (.inr h)
theorem asc_ins {x : R} {l : List R} (h : Asc l) (hx : ∀ y ∈ l, y.key ≠ x.key) : Asc (insV x l) := by
  induction l with
  | nil => exact List.pairwise_singleton _ _
  | cons z l ih =>
    obtain ⟨h1, h2⟩ := List.pairwise_cons.1 h
    unfold insV
    split
    · rename_i hz
      exact List.Pairwise.cons (fun y hy => by
        rcases List.mem_cons.1 hy with rfl | hy
        · exact hz
        · exact strLt_trans hz (h1 y hy)) h
    · rename_i hz
      have hzx : strLt z.key x.key = true := by
        cases e : strLt z.key x.key with
        | true => rfl
        | false => exact absurd (strLt_total e (by simpa using hz)) (hx z List.mem_cons_self)
      exact List.Pairwise.cons (fun y hy => by
        rcases mem_ins.1 hy with rfl | hy
        · exact hzx
        · exact h1 y hy) (ih h2 fun y hy => hx y (List.mem_cons_of_mem _ hy))
theorem mem_insK {k x : KR} {l : List KR} : x ∈ insK k l ↔ x = k ∨ x ∈ l := by
  induction l with
  | nil => simp [insK]
  | cons z l ih =>
    unfold insK
    split
    · simp
    · rw [List.mem_cons, ih, List.mem_cons]
      constructor
      · rintro (h | h | h)
        · exact .inr (.inl h)
        · exact .inl h
        · exact .inr (.inr h)
      · rintro (h | h | h)
        · exact .inr (.inl h)
        · exact .inl h
        · exact .inr (.inr h)
theorem mKind_mem {l : List KR} (ha : Asc (l.map kr)) {k : KR} (hk : k ∈ l) : mKindV k.key l = k.kind := by
  induction l with
  | nil => cases hk
  | cons z l ih =>
    obtain ⟨h1, h2⟩ := List.pairwise_cons.1 ha
    rcases List.mem_cons.1 hk with rfl | hk
    · rw [mKindV, if_pos rfl]
    · have h3 : strLt z.key k.key = true := h1 (kr k) (List.mem_map_of_mem hk)
      rw [mKindV, if_neg (strLt_ne h3)]
      exact ih h2 hk
theorem mKind_ne {l : List KR} {s : ByteArray} (h : mKindV s l ≠ 0) : ∃ x ∈ l, x.key = s ∧ mKindV s l = x.kind := by
  rcases mKind_or s l with ⟨e, _⟩ | e
  · exact absurd e h
  · exact e
theorem mKind_insK {l : List KR} {k : KR} {s : ByteArray} (hs : s ≠ k.key) : mKindV s (insK k l) = mKindV s l := by
  induction l with
  | nil => exact if_neg (Ne.symm hs)
  | cons z l ih =>
    unfold insK
    split
    · rw [mKindV, if_neg (Ne.symm hs)]
    · rw [mKindV, mKindV, ih]
/-- Keys in order that all lie among others in order are no more than these. -/
theorem asc_len {A B : List R} (ha : Asc A) (hb : Asc B) (h : ∀ x ∈ A, ∃ y ∈ B, y.key = x.key) : A.length ≤ B.length := by
  induction B generalizing A with
  | nil =>
    cases A with
    | nil => exact Nat.le_refl _
    | cons x A => obtain ⟨y, hy, _⟩ := h x List.mem_cons_self; cases hy
  | cons b B ih =>
    cases A with
    | nil => exact Nat.zero_le _
    | cons a A =>
      obtain ⟨a1, a2⟩ := List.pairwise_cons.1 ha
      obtain ⟨b1, b2⟩ := List.pairwise_cons.1 hb
      have hle : ∀ x ∈ A, ∃ y ∈ B, y.key = x.key := fun x hx => by
        obtain ⟨y, hy, e⟩ := h x (List.mem_cons_of_mem _ hx)
        rcases List.mem_cons.1 hy with rfl | hy
        · exfalso
          have h1 := a1 x hx
          rw [← e] at h1
          obtain ⟨z, hz, ez⟩ := h a List.mem_cons_self
          rcases List.mem_cons.1 hz with rfl | hz
          · rw [ez, strLt_irrefl] at h1; cases h1
          · have h2 := b1 z hz
            rw [ez] at h2
            have := strLt_trans h1 h2
            rw [strLt_irrefl] at this; cases this
        · exact ⟨y, hy, e⟩
      have := ih a2 b2 hle
      rw [List.length_cons, List.length_cons]; omega
theorem modelOk_iff {m : Mo} : modelOkV m = true ↔ m.keys.length ≤ 4 ∧ keysOkV m.keys = true ∧ reportOkV m.rows = true ∧ ∀ r ∈ m.rows, mKindV r.key m.keys = r.kind := by
  unfold modelOkV kindsIn
  simp only [Bool.and_eq_true, decide_eq_true_eq, List.all_eq_true]
theorem op_reg {o : O} (h : opOkV o = true) (k : o.kind = 1) : keyOkV o.key = true ∧ 1 ≤ o.what ∧ o.what ≤ 3 := by
  unfold opOkV at h
  rw [if_pos k] at h
  simp only [Bool.and_eq_true, decide_eq_true_eq] at h
  exact ⟨h.1, h.2.1⟩
theorem op_rec {o : O} (h : opOkV o = true) (k : o.kind = 2) : keyOkV o.key = true ∧ 0 ≤ o.val ∧ o.val ≤ 65535 := by
  unfold opOkV at h
  rw [if_neg (by omega), if_pos k] at h
  simp only [Bool.and_eq_true, decide_eq_true_eq] at h
  exact ⟨h.1, h.2.2⟩
theorem reg_ok {m : Mo} {o : O} (h : modelOkV m = true) (ho : opOkV o = true) (k : o.kind = 1) : modelOkV (regV m o).1 = true ∧ ∀ x ∈ m.keys, mKindV x.key (regV m o).1.keys = x.kind := by
  obtain ⟨h1, h2, h3, h4⟩ := modelOk_iff.1 h
  have hk := op_reg ho k
  have hid : ∀ x ∈ m.keys, mKindV x.key m.keys = x.kind := fun x hx => mKind_mem (keys_asc h2) hx
  unfold regV
  split
  · exact ⟨h, hid⟩
  · split
    · exact ⟨h, hid⟩
    · split
      · exact ⟨h, hid⟩
      · rename_i c1 c2 c3
        have c2 : mKindV o.key m.keys = 0 := Classical.byContradiction c2
        have hno : ∀ x ∈ m.keys, x.key ≠ o.key := fun x hx e => by
          have := hid x hx
          rw [e, c2] at this
          have ht := (tag_ne.1 (keys_tag h2 x hx)).2.1
          omega
        have hasc : Asc ((insK ⟨o.key, o.what⟩ m.keys).map kr) := by
          rw [insK_kr]
          exact asc_ins (keys_asc h2) fun y hy => by
            obtain ⟨x, hx, rfl⟩ := List.mem_map.1 hy
            exact hno x hx
        refine ⟨modelOk_iff.2 ⟨?_, keysOk_of hasc ?_, h3, ?_⟩, ?_⟩
        · show (insK ⟨o.key, o.what⟩ m.keys).length ≤ 4
          rw [insK_len]; omega
        · intro x hx
          rcases mem_insK.1 hx with rfl | hx
          · exact tag_ne.2 hk
          · exact keys_tag h2 x hx
        · intro r hr
          show mKindV r.key (insK ⟨o.key, o.what⟩ m.keys) = r.kind
          rw [mKind_insK, h4 r hr]
          show r.key ≠ o.key
          intro e
          have h5 := h4 r hr
          rw [e, c2] at h5
          have := rowOk_kind (report_mem h3 r hr).1
          omega
        · intro x hx
          show mKindV x.key (insK ⟨o.key, o.what⟩ m.keys) = x.kind
          rw [mKind_insK (hno x hx), hid x hx]
/-- The row of a key of a valid model. -/
theorem row_ok {m : Mo} {s : ByteArray} (h : modelOkV m = true) (hk : (mRowV m s).kind ≠ 0) : rowOkV (mRowV m s) = true ∧ (mRowV m s).key = s ∧ (mRowV m s).kind = mKindV s m.keys ∧ mKindV s m.keys ≠ 0 := by
  obtain ⟨h1, h2, h3, h4⟩ := modelOk_iff.1 h
  rcases mFind_or s (newRow m s) m.rows with ⟨e, _⟩ | ⟨e, ek⟩
  · have e : mRowV m s = newRow m s := e
    rw [e] at hk ⊢
    unfold newRow at hk ⊢
    split
    · rename_i c; rw [if_pos c] at hk; exact absurd rfl hk
    · rename_i c
      obtain ⟨x, hx, e1, e2⟩ := mKind_ne c
      have ht := tag_ne.1 (keys_tag h2 x hx)
      rw [e1] at ht
      refine ⟨?_, rfl, rfl, c⟩
      show rowOkV ⟨s, mKindV s m.keys, 0, false, 0, 0, 0, 0, 0, 0⟩ = true
      unfold rowOkV
      rw [ht.1, Bool.true_and]
      have h5 : mKindV s m.keys = 1 ∨ mKindV s m.keys = 2 ∨ mKindV s m.keys = 3 := by omega
      rcases h5 with q | q | q <;> (simp only [q]; rfl)
  · have e : mRowV m s ∈ m.rows := e
    have ek : (mRowV m s).key = s := ek
    have h5 := h4 _ e
    rw [ek] at h5
    exact ⟨(report_mem h3 _ e).1, ek, h5.symm, by rw [h5]; exact hk⟩
theorem with_ok {r : R} {v : Int} (h : rowOkV r = true) (h0 : 0 ≤ v) (h1 : v ≤ 65535) : rowOkV (withV r v) = true := by
  unfold withV
  split
  · by_cases e : countedV r v = r
    · rw [e]; exact h
    · exact (counted_ok e).1
  · split
    · rename_i c1 c2
      unfold rowOkV at h ⊢
      rw [if_neg c1, if_pos c2, Bool.and_eq_true] at h
      show (keyOkV r.key && if r.kind = 1 then _ else if r.kind = 2 then _ else _) = true
      rw [if_neg c1, if_pos c2, h.1, Bool.true_and]
      have hg := h.2
      unfold gaugeRV at hg ⊢
      simp only [decide_eq_true_eq] at hg ⊢
      exact ⟨⟨h0, h1⟩, .inl trivial, hg.2.2⟩
    · rename_i c1 c2
      have hk : r.kind = 3 := by rcases rowOk_kind h with q | q | q; exact absurd q c1; exact absurd q c2; exact q
      by_cases hn : r.n = 3
      · exact (sampled_full ⟨h, hk, h0, h1⟩ hn).1
      · exact (sampled_room ⟨h, hk, h0, h1⟩ hn).1
theorem with_keyk (r : R) (v : Int) : (withV r v).key = r.key ∧ (withV r v).kind = r.kind := by
  unfold withV countedV sampledV
  repeat' split
  all_goals exact ⟨rfl, rfl⟩
theorem rowPut_ok {m : Mo} {x : R} (h : modelOkV m = true) (hx : rowOkV x = true) (hk : mKindV x.key m.keys = x.kind) : modelOkV ⟨m.keys, rowPutV m.rows x⟩ = true := by
  obtain ⟨h1, h2, h3, h4⟩ := modelOk_iff.1 h
  have hm := report_mem h3
  have hA : Asc (noKey x.key m.rows) := List.Pairwise.filter _ (report_asc h3)
  have hin : ∀ y ∈ noKey x.key m.rows, y ∈ m.rows ∧ y.key ≠ x.key := fun y hy => by
    have := List.mem_filter.1 hy
    exact ⟨this.1, by simpa using this.2⟩
  have hany : ((noKey x.key m.rows).any fun y => decide (y.key = x.key)) = false := by
    rw [List.any_eq_false]
    intro y hy
    simpa using (hin y hy).2
  have main : Asc (rowPutV m.rows x) ∧ ∀ y ∈ rowPutV m.rows x, y ∈ m.rows ∨ y = x ∧ quietV x = false := by
    unfold rowPutV putV
    split
    · exact ⟨hA, fun y hy => .inl (hin y hy).1⟩
    · rename_i q
      rw [hany, if_neg (by simp)]
      refine ⟨asc_ins hA fun y hy => (hin y hy).2, fun y hy => ?_⟩
      rcases mem_ins.1 hy with rfl | hy
      · exact .inr ⟨rfl, by simpa using q⟩
      · exact .inl (hin y hy).1
  have hall : ∀ y ∈ rowPutV m.rows x, (rowOkV y = true ∧ quietV y = false) ∧ mKindV y.key m.keys = y.kind := fun y hy => by
    rcases main.2 y hy with q | ⟨rfl, q⟩
    · exact ⟨hm y q, h4 y q⟩
    · exact ⟨⟨hx, q⟩, hk⟩
  refine modelOk_iff.2 ⟨h1, h2, report_ok_of ?_ main.1 fun y hy => (hall y hy).1, fun y hy => (hall y hy).2⟩
  refine Nat.le_trans (asc_len main.1 (keys_asc h2) fun y hy => ?_) (by rw [List.length_map]; exact h1)
  have hy := hall y hy
  have h0 : mKindV y.key m.keys ≠ 0 := by
    rw [hy.2]
    rcases rowOk_kind hy.1.1 with q | q | q <;> omega
  obtain ⟨z, hz, e, _⟩ := mKind_ne h0
  exact ⟨kr z, List.mem_map_of_mem hz, e⟩
theorem rec_ok {m : Mo} {o : O} (h : modelOkV m = true) (ho : opOkV o = true) (k : o.kind = 2) : modelOkV (recV m o).1 = true ∧ (recV m o).1.keys = m.keys := by
  have hv := op_rec ho k
  unfold recV
  split
  · exact ⟨h, rfl⟩
  · rename_i c
    obtain ⟨r1, r2, r3, r4⟩ := row_ok h c
    have e := with_keyk (mRowV m o.key) o.val
    exact ⟨rowPut_ok h (with_ok r1 hv.2.1 hv.2.2) (by rw [e.1, e.2, r2, r3]), rfl⟩
theorem flush_ok {m : Mo} (h : modelOkV m = true) : modelOkV ⟨m.keys, []⟩ = true := by
  obtain ⟨h1, h2, h3, h4⟩ := modelOk_iff.1 h
  exact modelOk_iff.2 ⟨h1, h2, rfl, fun r hr => by cases hr⟩
/-- An operation keeps a valid model valid, and its keys their kinds. -/
theorem mDo_ok {m : Mo} {o : O} (h : modelOkV m = true) : modelOkV (mDoV m o).1 = true ∧ ∀ x ∈ m.keys, mKindV x.key (mDoV m o).1.keys = x.kind := by
  have hid : ∀ x ∈ m.keys, mKindV x.key m.keys = x.kind := fun x hx => mKind_mem (keys_asc (modelOk_iff.1 h).2.1) hx
  unfold mDoV
  split
  · rename_i c
    split
    · rename_i k; exact reg_ok h c.2 k
    · split
      · rename_i k
        obtain ⟨q1, q2⟩ := rec_ok h c.2 k
        refine ⟨q1, fun x hx => ?_⟩
        show mKindV x.key (recV m o).1.keys = x.kind
        rw [q2]; exact hid x hx
      · exact ⟨flush_ok h, hid⟩
  · exact ⟨h, hid⟩
def flushOp : O := ⟨3, ⟨#[]⟩, 0, 0⟩
theorem mDo_flush {m : Mo} (h : modelOkV m = true) : mDoV m flushOp = (⟨m.keys, []⟩, 0, m.rows) := by
  unfold mDoV
  rw [if_pos ⟨h, rfl⟩]
  rfl
theorem mDo_told {m : Mo} {o : O} (h : modelOkV m = true) (ho : opOkV o = true) (k : o.kind = 3) : (mDoV m o).2.2 = m.rows := by
  unfold mDoV
  rw [if_pos ⟨h, ho⟩, if_neg (by omega), if_neg (by omega)]
end Go.Proofs.YtbhhhakfjmaglaaGreat
