/-
  Chapter 13 in plain words: two records of one key, in either order.
-/
import Derived.Test.YtbhhhakfjmaglaaGreatModZ
import Derived.Test.YtbhhhakfjmaglaaGreatZb
namespace Go.Proofs.YtbhhhakfjmaglaaGreat
open Go.RowKit M
set_option linter.unusedVariables false
/-- A valid row that tells of nothing is the key's new row. -/
theorem quiet_new {x : R} (h : rowOkV x = true) (q : quietV x = true) : x = { zeroR with key := x.key, kind := x.kind } := by
  have hk := rowOk_kind h
  obtain ⟨key, kind, sum, st, last, n, mn, mx, total, dropped⟩ := x
  unfold quietV at q
  simp only [Bool.and_eq_true, beq_iff_eq, Bool.not_eq_true'] at q
  obtain ⟨q1, q2, q3⟩ := q
  unfold rowOkV at h
  simp only at *
  subst q1; subst q2; subst q3
  rcases hk with rfl | rfl | rfl
  · rw [if_pos rfl, Bool.and_eq_true] at h
    have h2 := h.2
    unfold countV at h2
    simp only [decide_eq_true_eq] at h2
    obtain ⟨_, _, rfl, _, rfl, rfl, rfl, rfl⟩ := h2
    rfl
  · rw [if_neg (by decide), if_pos rfl, Bool.and_eq_true] at h
    have h2 := h.2
    unfold gaugeRV at h2
    simp only [decide_eq_true_eq] at h2
    obtain ⟨_, h3, _, _, rfl, rfl, rfl, rfl⟩ := h2
    rcases h3 with h3 | rfl
    · cases h3
    · rfl
  · rw [if_neg (by decide), if_neg (by decide), if_pos rfl, Bool.and_eq_true, Bool.and_eq_true, decide_eq_true_eq] at h
    obtain ⟨_, ⟨_, _, rfl⟩, h2⟩ := h
    unfold timerV at h2
    rw [if_pos rfl] at h2
    simp only [decide_eq_true_eq] at h2
    obtain ⟨rfl, rfl, rfl, rfl⟩ := h2
    rfl
theorem find_no {s : ByteArray} {z : R} {l : List R} (h : ∀ y ∈ l, y.key ≠ s) : mFindV s z l = z := by
  rcases mFind_or s z l with ⟨e, _⟩ | ⟨e, k⟩
  · exact e
  · exact absurd k (h _ e)
theorem find_ins {s : ByteArray} {z x : R} {l : List R} (hx : x.key = s) (h : ∀ y ∈ l, y.key ≠ s) : mFindV s z (insV x l) = x := by
  induction l with
  | nil => exact if_pos hx
  | cons y l ih =>
    unfold insV
    split
    · exact if_pos hx
    · rw [mFindV, if_neg (h y List.mem_cons_self)]
      exact ih fun y hy => h y (List.mem_cons_of_mem _ hy)
theorem noKey_mem {s : ByteArray} {l : List R} : ∀ y ∈ noKey s l, y.key ≠ s := fun y hy => by simpa using (List.mem_filter.1 hy).2
theorem noKey_ins {s : ByteArray} {x : R} {l : List R} (hx : x.key = s) (h : ∀ y ∈ l, y.key ≠ s) : noKey s (insV x l) = l := by
  have hl : noKey s l = l := List.filter_eq_self.2 fun y hy => by simpa using h y hy
  induction l with
  | nil => simp [insV, noKey, hx]
  | cons y l ih =>
    have hy := h y List.mem_cons_self
    unfold insV
    split
    · show noKey s (x :: y :: l) = y :: l
      rw [show noKey s (x :: y :: l) = noKey s (y :: l) from by unfold noKey; rw [List.filter_cons_of_neg (by simp [hx])]]
      exact hl
    · have h2 : ∀ y ∈ l, y.key ≠ s := fun y hy => h y (List.mem_cons_of_mem _ hy)
      show noKey s (y :: insV x l) = y :: l
      rw [show noKey s (y :: insV x l) = y :: noKey s (insV x l) from by unfold noKey; rw [List.filter_cons_of_pos (by simp [hy])]]
      rw [ih h2 (List.filter_eq_self.2 fun y hy => by simpa using h2 y hy)]
theorem rowPut_eq (l : List R) (x : R) : rowPutV l x = if quietV x = true then noKey x.key l else insV x (noKey x.key l) := by
  unfold rowPutV putV
  have hany : ((noKey x.key l).any fun y => decide (y.key = x.key)) = false := by
    rw [List.any_eq_false]; intro y hy; simpa using noKey_mem y hy
  rw [hany]
  simp
/-- The row put last is found. -/
theorem row_after {m : Mo} {s : ByteArray} {x : R} (hx : rowOkV x = true) (hk : x.key = s) (hkd : mKindV s m.keys = x.kind) : mRowV ⟨m.keys, rowPutV m.rows x⟩ s = x := by
  show mFindV s (newRow ⟨m.keys, rowPutV m.rows x⟩ s) (rowPutV m.rows x) = x
  rw [rowPut_eq]
  split
  · rename_i q
    rw [find_no (by rw [hk]; exact noKey_mem)]
    unfold newRow
    have h0 : mKindV s m.keys ≠ 0 := by rw [hkd]; rcases rowOk_kind hx with e | e | e <;> omega
    rw [if_neg h0]
    have := quiet_new hx q
    rw [hk] at this
    rw [hkd]
    exact this.symm
  · exact find_ins hk (by rw [hk]; exact noKey_mem)
theorem rowPut_twice (l : List R) (x y : R) (h : x.key = y.key) : rowPutV (rowPutV l x) y = rowPutV l y := by
  have e : noKey y.key (rowPutV l x) = noKey y.key l := by
    rw [rowPut_eq, h]
    split
    · exact List.filter_eq_self.2 fun z hz => by simpa using noKey_mem z hz
    · exact noKey_ins h noKey_mem
  rw [rowPut_eq (rowPutV l x) y, rowPut_eq l y, e]
def recO (s : ByteArray) (v : Int) : O := ⟨2, s, 0, v⟩
theorem recO_ok {s : ByteArray} {v : Int} (hs : keyOkV s = true) (h0 : 0 ≤ v) (h1 : v ≤ 65535) : opOkV (recO s v) = true := by
  unfold opOkV recO
  simp [hs, h0, h1]
/-- A record of a key that a valid model knows. -/
theorem mDo_rec {m : Mo} {s : ByteArray} {v : Int} (h : modelOkV m = true) (hk : mKindV s m.keys ≠ 0) (hs : keyOkV s = true) (h0 : 0 ≤ v) (h1 : v ≤ 65535) :
    (mDoV m (recO s v)).1 = ⟨m.keys, rowPutV m.rows (withV (mRowV m s) v)⟩ ∧ rowOkV (mRowV m s) = true ∧ (mRowV m s).key = s ∧ (mRowV m s).kind = mKindV s m.keys := by
  have hr : (mRowV m s).kind ≠ 0 := by
    rcases mFind_or s (newRow m s) m.rows with ⟨e, _⟩ | ⟨e, _⟩
    · have e : mRowV m s = newRow m s := e
      rw [e]; unfold newRow; rw [if_neg hk]; exact hk
    · have := rowOk_kind (report_mem (modelOk_iff.1 h).2.2.1 _ e).1
      show (mFindV s (newRow m s) m.rows).kind ≠ 0
      omega
  obtain ⟨r1, r2, r3, _⟩ := row_ok h hr
  refine ⟨?_, r1, r2, r3⟩
  unfold mDoV
  rw [if_pos ⟨h, recO_ok hs h0 h1⟩]
  show (if (2 : Int) = 1 then _ else if (2 : Int) = 2 then ((recV m (recO s v)).1, (recV m (recO s v)).2, ([] : List R)) else _).1 = _
  rw [if_neg (by decide), if_pos rfl]
  show (recV m (recO s v)).1 = _
  unfold recV
  rw [if_neg (show ¬ (mRowV m (recO s v).key).kind = 0 from hr)]
  rfl
/-- Two records of one key. -/
theorem mDo_two {m : Mo} {s : ByteArray} {v u : Int} (h : modelOkV m = true) (hk : mKindV s m.keys ≠ 0) (hs : keyOkV s = true) (h0 : 0 ≤ v) (h1 : v ≤ 65535) (k0 : 0 ≤ u) (k1 : u ≤ 65535) :
    (mDoV (mDoV m (recO s v)).1 (recO s u)).1 = ⟨m.keys, rowPutV m.rows (withV (withV (mRowV m s) v) u)⟩ ∧ mRowV (mDoV (mDoV m (recO s v)).1 (recO s u)).1 s = withV (withV (mRowV m s) v) u := by
  obtain ⟨e1, r1, r2, r3⟩ := mDo_rec h hk hs h0 h1
  have ok1 := (mDo_ok (o := recO s v) h).1
  have x1 := with_ok r1 h0 h1
  have kk1 := with_keyk (mRowV m s) v
  rw [e1] at ok1 ⊢
  have ra := row_after (m := m) x1 (kk1.1.trans r2) (by rw [kk1.2, r3])
  obtain ⟨e2, _, _, _⟩ := mDo_rec (m := ⟨m.keys, rowPutV m.rows (withV (mRowV m s) v)⟩) (s := s) (v := u) ok1 hk hs k0 k1
  rw [ra] at e2
  have x2 := with_ok x1 k0 k1
  have kk2 := with_keyk (withV (mRowV m s) v) u
  have e3 : (mDoV ⟨m.keys, rowPutV m.rows (withV (mRowV m s) v)⟩ (recO s u)).1 = ⟨m.keys, rowPutV m.rows (withV (withV (mRowV m s) v) u)⟩ := by
    rw [e2]
    show Mo.mk m.keys (rowPutV (rowPutV m.rows (withV (mRowV m s) v)) (withV (withV (mRowV m s) v) u)) = _
    rw [rowPut_twice _ _ _ kk2.1.symm]
  refine ⟨e3, ?_⟩
  rw [e3]
  exact row_after x2 (by rw [kk2.1, kk1.1, r2]) (by rw [kk2.2, kk1.2, r3])
theorem with_count {r : R} {v u : Int} (h : rowOkV r = true) (hk : r.kind = 1) (h0 : 0 ≤ v) (h1 : v ≤ 65535) (k0 : 0 ≤ u) (k1 : u ≤ 65535) : withV (withV r v) u = withV (withV r u) v := by
  have hc : ∀ (x : R) (w : Int), rowOkV x = true → x.kind = 1 → 0 ≤ w → w ≤ 65535 → withV x w = { x with sum := (x.sum + w) % 281474976710656 } := fun x w hx hxk a b => by
    unfold withV countedV
    rw [if_pos hxk, if_pos ⟨hx, hxk, a, b⟩]
  have o1 := with_ok h h0 h1
  have o2 := with_ok h k0 k1
  have kk1 := with_keyk r v
  have kk2 := with_keyk r u
  rw [hc _ u o1 (by rw [kk1.2, hk]) k0 k1, hc _ v o2 (by rw [kk2.2, hk]) h0 h1, hc r v h hk h0 h1, hc r u h hk k0 k1]
  simp only
  congr 1
  omega
theorem with_gauge {r : R} {v : Int} (hk : r.kind = 2) : (withV r v).last = v := by
  unfold withV
  rw [if_neg (by omega), if_pos hk]
theorem with_timer {r : R} {v : Int} (h : rowOkV r = true) (hk : r.kind = 3) (h0 : 0 ≤ v) (h1 : v ≤ 65535) : (withV r v).n = if r.n = 3 then 3 else r.n + 1 := by
  unfold withV
  rw [if_neg (by omega), if_neg (by omega)]
  split
  · rename_i hn; exact (sampled_full ⟨h, hk, h0, h1⟩ hn).2.1
  · rename_i hn; exact (sampled_room ⟨h, hk, h0, h1⟩ hn).2.1.1
/-- What the law asks of two records of one key in either order. -/
theorem swap_ok {m : Mo} {s : ByteArray} {v u : Int} (h : modelOkV m = true) (hk : mKindV s m.keys ≠ 0) (hs : keyOkV s = true) (h0 : 0 ≤ v) (h1 : v ≤ 65535) (k0 : 0 ≤ u) (k1 : u ≤ 65535) :
    (mKindV s m.keys = 1 → (mDoV (mDoV m (recO s v)).1 (recO s u)).1 = (mDoV (mDoV m (recO s u)).1 (recO s v)).1) ∧
    (mKindV s m.keys = 2 → (mRowV (mDoV (mDoV m (recO s v)).1 (recO s u)).1 s).last = u ∧ (mRowV (mDoV (mDoV m (recO s u)).1 (recO s v)).1 s).last = v) ∧
    (mKindV s m.keys = 3 → (mRowV (mDoV (mDoV m (recO s v)).1 (recO s u)).1 s).n = (mRowV (mDoV (mDoV m (recO s u)).1 (recO s v)).1 s).n) := by
  obtain ⟨_, r1, r2, r3⟩ := mDo_rec h hk hs h0 h1
  obtain ⟨a1, a2⟩ := mDo_two h hk hs h0 h1 k0 k1
  obtain ⟨b1, b2⟩ := mDo_two h hk hs k0 k1 h0 h1
  refine ⟨fun c => ?_, fun c => ?_, fun c => ?_⟩
  · rw [a1, b1, with_count r1 (by rw [r3, c]) h0 h1 k0 k1]
  · rw [a2, b2]
    exact ⟨with_gauge (by rw [(with_keyk _ _).2, r3, c]), with_gauge (by rw [(with_keyk _ _).2, r3, c])⟩
  · rw [a2, b2, with_timer (with_ok r1 h0 h1) (by rw [(with_keyk _ _).2, r3, c]) k0 k1, with_timer (with_ok r1 k0 k1) (by rw [(with_keyk _ _).2, r3, c]) h0 h1, with_timer r1 (by rw [r3, c]) h0 h1, with_timer r1 (by rw [r3, c]) k0 k1]
set_option maxRecDepth 100000 in
theorem field_row (w : World) (r : R) (i : Nat) (hi : i = 4 ∨ i = 5) : (Instr.field 42 (.agg #[.string r.key, .int .i64 r.kind, .int .i64 r.sum, .bool r.set, .int .i64 r.last, .int .i64 r.n, .int .i64 r.mn, .int .i64 r.mx, .int .i64 r.total, .int .i64 r.dropped]) i).run Tryz.prog w = .ok (.int .i64 (if i = 4 then r.last else r.n)) w := by
  rcases hi with rfl | rfl
  all_goals
    unfold Instr.field
    simp [run_underlying Tryz.underlying42, asAgg, go_sem]
end Go.Proofs.YtbhhhakfjmaglaaGreat
