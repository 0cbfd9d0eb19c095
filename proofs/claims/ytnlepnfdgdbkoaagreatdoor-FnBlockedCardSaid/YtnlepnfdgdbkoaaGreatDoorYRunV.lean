/-
  Texts of this seat, laid together.
-/
import Derived.Test.YtnlepnfdgdbkoaaGreatDoorYZa
namespace Go.Proofs.YtnlepnfdgdbkoaaGreatDoor
open Go.RowKit M
set_option linter.unusedVariables false
def runS (s : S) (l : List Int) : S := l.foldl stepV s
theorem runS_snoc (s : S) (l : List Int) (t : Int) : runS s (l ++ [t]) = stepV (runS s l) t := by
  unfold runS; rw [List.foldl_append]; rfl
theorem runS_valid (s : S) (l : List Int) : worldOkV (runS s l) = worldOkV s := by
  induction l generalizing s with
  | nil => rfl
  | cons t l ih => show worldOkV (runS (stepV s t) l) = _; rw [ih, step_valid]
theorem step_as {s : S} (h : worldOkV s = true) (t : Int) : stepV s t = s ∨ ∃ n : Nat, n < 4 ∧ restsV s n = false ∧ stepV s t = doV s n := by
  unfold stepV
  split
  · rename_i hc
    have ht : 0 ≤ t ∧ t ≤ 3 := of_decide_eq_true hc.2
    by_cases hr : restsV s t.toNat = true
    · exact .inl (if_pos hr)
    · exact .inr ⟨t.toNat, by omega, by simpa using hr, rfl⟩
  · exact .inl rfl
theorem doV_go {s : S} {t : Nat} (h : restsV s t = false) : doV s t = if (s.jobs.getD t zeroJ).busy = false then startS { s with now := s.now + 1 } t else { (workS { s with now := s.now + 1 } t { (s.jobs.getD t zeroJ) with steps := bump (s.jobs.getD t zeroJ).steps }).1 with jobs := (workS { s with now := s.now + 1 } t { (s.jobs.getD t zeroJ) with steps := bump (s.jobs.getD t zeroJ).steps }).1.jobs.set t (workS { s with now := s.now + 1 } t { (s.jobs.getD t zeroJ) with steps := bump (s.jobs.getD t zeroJ).steps }).2 } := by
  unfold doV
  rw [if_neg (by rw [h]; decide)]
theorem JG.steps15 {t : Nat} {j : J} (h : JG t j) (n : Int) : JG t { j with steps := n } := ⟨h.busy, h.op, h.kt, h.place, h.count, h.slot, h.what, h.e, h.k, h.keys, h.raw⟩
def KeepF (s : S) : Prop := ∀ j, j < s.jobs.length → Fit (s.jobs.getD j zeroJ).keys ∧ Fit (s.jobs.getD j zeroJ).raw
theorem fit_nil : Fit [] := fun z hz => by cases hz
theorem fit_more {l : List Int} {z : Int} (h : Fit l) (hz : 0 ≤ z ∧ z ≤ 281474976710655) : Fit (l ++ [z]) := fun x hx => by
  rcases List.mem_append.1 hx with hx | hx
  · exact h x hx
  · rw [List.mem_singleton.1 hx]; omega
theorem work_fit {s : S} {t : Nat} {j : J} (hc : okC s.cells = true) (h : Fit j.keys ∧ Fit j.raw) : Fit (workS s t j).2.keys ∧ Fit (workS s t j).2.raw := by
  unfold workS
  split
  · exact ⟨fit_nil, fit_nil⟩
  split
  · unfold probeS
    simp only
    (repeat' split) <;> exact h
  split
  · unfold claimS
    simp only
    split <;> exact h
  split
  · unfold writeS
    (repeat' split) <;> first | exact h | (unfold dataS; simp only; (repeat' split) <;> exact h)
  · unfold flushS
    (repeat' split) <;> first | exact h | exact ⟨fit_more h.1 (cell_word hc _), h.2⟩ | exact ⟨h.1, fit_more h.2 (cell_word hc _)⟩
theorem step_keepF {s : S} (h : worldOkV s = true) (hk : KeepF s) (t : Int) : KeepF (stepV s t) := by
  rcases step_as h t with e | ⟨n, hn, hr, e⟩
  · rw [e]; exact hk
  · rw [e, doV_go hr]
    have hg := good_iff.1 h
    split
    · intro j hj
      have hj' : j < (s.jobs.set n { zeroJ with busy := true, op := (s.todo.getD n []).headD zeroO, serial := s.serial + 1, pc := if ((s.todo.getD n []).headD zeroO).kind = 3 then 12 else 0 }).length := hj
      show Fit ((s.jobs.set n _).getD j zeroJ).keys ∧ Fit ((s.jobs.set n _).getD j zeroJ).raw
      rw [List.length_set] at hj'
      by_cases ej : j = n
      · subst ej
        rw [set_getD _ _ _ _ _ hj', if_pos rfl]
        exact ⟨fit_nil, fit_nil⟩
      · rw [set_getD _ _ _ _ _ (by rw [hg.jl]; exact hn), if_neg ej]
        exact hk j hj'
    · rename_i hb
      have hb' : (s.jobs.getD n zeroJ).busy = true := by simpa using hb
      have hjg := hg.jobs n hn
      have hd := (work_did (s := { s with now := s.now + 1 }) (t := n) (j := { (s.jobs.getD n zeroJ) with steps := bump (s.jobs.getD n zeroJ).steps }) hg.cells (((jg_iff hb').1 hjg).steps15 _)).1
      intro j hj
      have e2 := hd.jobs
      have hj' : j < s.jobs.length := by
        have : j < ((workS { s with now := s.now + 1 } n { (s.jobs.getD n zeroJ) with steps := bump (s.jobs.getD n zeroJ).steps }).1.jobs.set n (workS { s with now := s.now + 1 } n { (s.jobs.getD n zeroJ) with steps := bump (s.jobs.getD n zeroJ).steps }).2).length := hj
        rw [List.length_set, e2] at this
        exact this
      show Fit (((workS { s with now := s.now + 1 } n { (s.jobs.getD n zeroJ) with steps := bump (s.jobs.getD n zeroJ).steps }).1.jobs.set n _).getD j zeroJ).keys ∧ Fit (((workS { s with now := s.now + 1 } n { (s.jobs.getD n zeroJ) with steps := bump (s.jobs.getD n zeroJ).steps }).1.jobs.set n _).getD j zeroJ).raw
      rw [e2]
      by_cases ej : j = n
      · subst ej
        rw [set_getD _ _ _ _ _ hj', if_pos rfl]
        exact work_fit (s := { s with now := s.now + 1 }) hg.cells (hk j hj')
      · rw [set_getD _ _ _ _ _ (by rw [hg.jl]; exact hn), if_neg ej]
        exact hk j hj'
theorem op_size {o : O} (h : opOkV o = true) : o.key.size ≤ 4 := by
  rcases (op_kinds h).2 with h3 | hk
  · unfold opOkV at h
    rw [if_neg (by omega), if_neg (by omega), if_pos h3] at h
    unfold isFlushO at h
    have h' := of_decide_eq_true h
    rw [h'.2.1]
    decide
  · exact (keyOkV_iff.1 hk).1.2
theorem step_len {s : S} (h : worldOkV s = true) (t : Int) : (stepV s t).log.length ≤ s.log.length + 1 := by
  rcases step_as h t with e | ⟨n, hn, hr, e⟩
  · rw [e]; omega
  · rw [e]
    rcases (do_did (good_iff.1 h) hn).log with q | ⟨e2, q, _⟩
    · rw [q]; omega
    · rw [q, List.length_append]; simp
theorem runS_len {s : S} (h : worldOkV s = true) (l : List Int) : (runS s l).log.length ≤ s.log.length + l.length := by
  induction l generalizing s with
  | nil => exact Nat.le_refl _
  | cons t l ih =>
    have h1 := step_len h t
    have h2 := ih (s := stepV s t) (by rw [step_valid]; exact h)
    show (runS (stepV s t) l).log.length ≤ _
    rw [List.length_cons]; omega
theorem runS_keepF {s : S} (h : worldOkV s = true) (hk : KeepF s) (l : List Int) : KeepF (runS s l) := by
  induction l generalizing s with
  | nil => exact hk
  | cons t l ih => exact ih (s := stepV s t) (by rw [step_valid]; exact h) (step_keepF h hk t)
theorem runS_no {s : S} (h : worldOkV s = false) (l : List Int) : runS s l = s := by
  induction l with
  | nil => rfl
  | cons t l ih =>
    show runS (stepV s t) l = s
    have e : stepV s t = s := by unfold stepV; rw [if_neg (by rw [h]; simp)]
    rw [e, ih]
end Go.Proofs.YtnlepnfdgdbkoaaGreatDoor
