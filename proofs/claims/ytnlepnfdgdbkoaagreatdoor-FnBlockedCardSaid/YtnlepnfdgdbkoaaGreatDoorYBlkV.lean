/-
  Texts of this seat, laid together.
-/
import Derived.Test.YtnlepnfdgdbkoaaGreatDoorYRunV
namespace Go.Proofs.YtnlepnfdgdbkoaaGreatDoor
open Go.RowKit M
set_option linter.unusedVariables false
def doF (s : S) (t : Nat) : S :=
  if (s.jobs.getD t zeroJ).busy = false then (if (s.todo.getD t []).length = 0 ∨ s.serial = 1000000 then s else startS { s with now := s.now + 1 } t)
  else { (workS { s with now := s.now + 1 } t { (s.jobs.getD t zeroJ) with steps := bump (s.jobs.getD t zeroJ).steps }).1 with jobs := (workS { s with now := s.now + 1 } t { (s.jobs.getD t zeroJ) with steps := bump (s.jobs.getD t zeroJ).steps }).1.jobs.set t (workS { s with now := s.now + 1 } t { (s.jobs.getD t zeroJ) with steps := bump (s.jobs.getD t zeroJ).steps }).2 }
theorem do_F {s : S} {t : Nat} (hn : s.now ≠ 1000000000) : doV s t = doF s t := by
  by_cases hr : restsV s t = true
  · have e : doV s t = s := by unfold doV; rw [if_pos hr]
    rw [e]
    unfold restsV at hr
    simp only [Bool.or_eq_true, Bool.and_eq_true, Bool.not_eq_true', decide_eq_true_eq, hn, or_false] at hr
    unfold doF
    rw [if_pos hr.1, if_pos hr.2]
  · have hr' : restsV s t = false := by simpa using hr
    rw [doV_go hr']
    unfold restsV at hr'
    unfold doF
    by_cases hb : (s.jobs.getD t zeroJ).busy = false
    · rw [if_pos hb, if_pos hb]
      rw [hb] at hr'
      have : ¬ ((s.todo.getD t []).length = 0 ∨ s.serial = 1000000) := by
        intro q
        have : (decide ((s.todo.getD t []).length = 0) || decide (s.serial = 1000000)) = true := by simpa using q
        rw [this] at hr'
        simp at hr'
      rw [if_neg this]
    · rw [if_neg hb, if_neg hb]
theorem rest_F {s : S} {t : Nat} (h1 : (s.jobs.getD t zeroJ).busy = false) (h2 : (s.todo.getD t []).length = 0) : doF s t = s := by
  unfold doF
  rw [if_pos h1, if_pos (.inl h2)]
theorem step_F {s : S} (h : worldOkV s = true) (hn : s.now < 1000000000) (t : Nat) (ht : t < 4) : stepV s (t : Int) = doF s t := by
  unfold stepV
  rw [if_pos ⟨h, by unfold threadOk; exact decide_eq_true (by omega)⟩, Int.toNat_natCast, do_F (by omega)]
theorem now_F {s : S} (h : worldOkV s = true) (t : Int) : (stepV s t).now ≤ s.now + 1 := by
  rcases step_as h t with e | ⟨n, hn, hr, e⟩
  · rw [e]; omega
  · rw [e]; exact (do_did (good_iff.1 h) hn).now.2
def runF (s : S) (l : List Nat) : S := l.foldl doF s
theorem run_F {s : S} (h : worldOkV s = true) (l : List Nat) (hl : ∀ t ∈ l, t < 4) (hn : s.now + l.length < 1000000000) : runS s (l.map fun t : Nat => (t : Int)) = runF s l := by
  induction l generalizing s with
  | nil => rfl
  | cons t l ih =>
    rw [List.length_cons] at hn
    have e := step_F h (by omega) t (hl t List.mem_cons_self)
    have h2 := now_F h (t : Int)
    show runS (stepV s (t : Int)) (l.map _) = runF (doF s t) l
    rw [← e]
    exact ih (by rw [step_valid]; exact h) (fun x hx => hl x (List.mem_cons_of_mem _ hx)) (by omega)
def roundF (s : S) : S := doF (doF (doF (doF s 0) 1) 2) 3
def iterF : Nat → S → S
  | 0, s => s
  | n + 1, s => iterF n (roundF s)
def turnN (n : Nat) : List Nat := (List.range n).map fun i => i % 4
theorem turnN_four (n : Nat) : turnN (4 * n + 4) = [0, 1, 2, 3] ++ turnN (4 * n) := by
  unfold turnN
  rw [show 4 * n + 4 = 4 + 4 * n by omega, List.range_add, List.map_append, List.map_map]
  congr 1
  exact List.map_congr_left fun i _ => by show (4 + i) % 4 = i % 4; omega
theorem turn_iter (n : Nat) (s : S) : runF s (turnN (4 * n)) = iterF n s := by
  induction n generalizing s with
  | zero => rfl
  | succ n ih =>
    rw [show 4 * (n + 1) = 4 * n + 4 by omega, turnN_four]
    show runF (roundF s) (turnN (4 * n)) = iterF n (roundF s)
    exact ih _
theorem iter_add (m n : Nat) (s : S) : iterF (m + n) s = iterF n (iterF m s) := by
  induction m generalizing s with
  | zero => rw [Nat.zero_add]; rfl
  | succ m ih => rw [show m + 1 + n = (m + n) + 1 by omega]; exact ih _
theorem iter_fix {s : S} (h : roundF s = s) (n : Nat) : iterF n s = s := by
  induction n with
  | zero => rfl
  | succ n ih => show iterF n (roundF s) = s; rw [h, ih]
theorem doF_work {s : S} {t : Nat} {j : J} (hj : s.jobs.getD t zeroJ = j) (hb : j.busy = true) {p : S × J} (hp : workS { s with now := s.now + 1 } t { j with steps := bump j.steps } = p) : doF s t = { p.1 with jobs := p.1.jobs.set t p.2 } := by
  unfold doF
  rw [hj, if_neg (by rw [hb]; decide), hp]
theorem work_probe {w : S} {t : Nat} {j : J} (h : j.pc = 0) : workS w t j = probeS w t j := by
  unfold workS
  rw [if_neg (by omega), if_pos h]
theorem work_claim {w : S} {t : Nat} {j : J} (h : j.pc = 1) : workS w t j = claimS w t j := by
  unfold workS
  rw [if_neg (by omega), if_neg (by omega), if_pos h]
theorem probe_none {w : S} {t : Nat} {j : J} {slot : Int} (hs : probeV j.op.key j.k = slot) (hc : cellV' w (3 + slot) = 0) (hk : j.op.kind = 1) : probeS w t j = (w, { j with pc := 1 }) := by
  unfold probeS
  simp only [hs]
  rw [if_pos hc, if_pos hk]
theorem probe_hit {w : S} {t : Nat} {j : J} {slot c kd : Int} (hs : probeV j.op.key j.k = slot) (hc : cellV' w (3 + slot) = c) (h0 : c ≠ 0) (hkey : tagKey c = j.op.key) (hkd : tagKind c = kd) (hk : j.op.kind = 2) : probeS w t j = (w, { j with slot := slot, what := kd, pc := 2 }) := by
  unfold probeS
  simp only [hs, hc, hkd]
  rw [if_neg h0, if_pos hkey, if_pos hk]
theorem claim_free {w : S} {t : Nat} {j : J} {slot g : Int} (hs : probeV j.op.key j.k = slot) (hc : cellV' w (3 + slot) = 0) (hg : tagV j.op.key j.op.what = g) : claimS w t j = endV (putV' w (3 + slot) g) t j 0 := by
  unfold claimS
  simp only [hs, hg]
  rw [if_neg (by rw [hc]; decide)]
theorem okA : keyOkV ⟨#[97]⟩ = true := by decide
theorem hashA : hashV ⟨#[97]⟩ % 4 = 0 := by decide
theorem probeA : probeV ⟨#[97]⟩ 0 = 0 := by
  have h := probeV_yes okA (k := 0) (by decide)
  have h2 := hashA
  have h3 : probeV ⟨#[97]⟩ 0 = ((hashV ⟨#[97]⟩ : Int) + (0 : Nat)) % 4 := h
  rw [h3]; omega
theorem tagA : tagV ⟨#[97]⟩ 1 = 389 := by decide
theorem tagKeyA : tagKey 389 = ⟨#[97]⟩ := by unfold tagKey; rw [← tagA, untag_tag okA (by decide)]
theorem tagKindA : tagKind 389 = 1 := by unfold tagKind; rw [← tagA, untag_tag okA (by decide)]
def stA0 (v : Int) (l : List E) : S := ⟨[0, 0, 0, 0, 0, 0, 0, 0, 0, 0, 0, 0, 0, 0, 0, 0, 0, 0, 0, 0, 0, 0, 0, 0, 0, 0, 0, 0, 0, 0, 0, 0, 0, 0, 0, 0, 0, 0, 0, 0, 0, 0, 0, 0, 0, 0, 0, 0, 0, 0, 0, 0, 0, 0, 0, 0, 0, 0, 0, 0, 0, 0, 0, 0, 0, 0, 0, 0, 0, 0, 0], [zeroJ, zeroJ, zeroJ, zeroJ], [[⟨1, ⟨#[97]⟩, 1, 0⟩, ⟨2, ⟨#[97]⟩, 0, v⟩], [], [], [⟨3, ⟨#[]⟩, 0, 0⟩]], l, 0, 0⟩
def stA1 (v : Int) (l : List E) : S := ⟨[0, 0, 0, 0, 0, 0, 0, 0, 0, 0, 0, 0, 0, 0, 0, 0, 0, 0, 0, 0, 0, 0, 0, 0, 0, 0, 0, 0, 0, 0, 0, 0, 0, 0, 0, 0, 0, 0, 0, 0, 0, 0, 0, 0, 0, 0, 0, 0, 0, 0, 0, 0, 0, 0, 0, 0, 0, 0, 0, 0, 0, 0, 0, 0, 0, 0, 0, 0, 0, 0, 0], [{ busy := true, op := ⟨1, ⟨#[97]⟩, 1, 0⟩, serial := 1, pc := 0, k := 0, slot := 0, what := 0, e := 0, stamp := 0, old := 0, flips := 0, steps := 0, code := 0, keys := [], raw := [] }, zeroJ, zeroJ, zeroJ], [[⟨2, ⟨#[97]⟩, 0, v⟩], [], [], [⟨3, ⟨#[]⟩, 0, 0⟩]], l, 1, 1⟩
def stA2 (v : Int) (l : List E) : S := ⟨[0, 0, 0, 0, 0, 0, 0, 0, 0, 0, 0, 0, 0, 0, 0, 0, 0, 0, 0, 0, 0, 0, 0, 0, 0, 0, 0, 0, 0, 0, 0, 0, 0, 0, 0, 0, 0, 0, 0, 0, 0, 0, 0, 0, 0, 0, 0, 0, 0, 0, 0, 0, 0, 0, 0, 0, 0, 0, 0, 0, 0, 0, 0, 0, 0, 0, 0, 0, 0, 0, 0], [{ busy := true, op := ⟨1, ⟨#[97]⟩, 1, 0⟩, serial := 1, pc := 1, k := 0, slot := 0, what := 0, e := 0, stamp := 0, old := 0, flips := 0, steps := 1, code := 0, keys := [], raw := [] }, zeroJ, zeroJ, zeroJ], [[⟨2, ⟨#[97]⟩, 0, v⟩], [], [], [⟨3, ⟨#[]⟩, 0, 0⟩]], l, 1, 2⟩
def stA3 (v : Int) (l : List E) : S := ⟨[0, 0, 0, 389, 0, 0, 0, 0, 0, 0, 0, 0, 0, 0, 0, 0, 0, 0, 0, 0, 0, 0, 0, 0, 0, 0, 0, 0, 0, 0, 0, 0, 0, 0, 0, 0, 0, 0, 0, 0, 0, 0, 0, 0, 0, 0, 0, 0, 0, 0, 0, 0, 0, 0, 0, 0, 0, 0, 0, 0, 0, 0, 0, 0, 0, 0, 0, 0, 0, 0, 0], [{ busy := true, op := ⟨1, ⟨#[97]⟩, 1, 0⟩, serial := 1, pc := 11, k := 0, slot := 0, what := 0, e := 0, stamp := 0, old := 0, flips := 0, steps := 2, code := 0, keys := [], raw := [] }, zeroJ, zeroJ, zeroJ], [[⟨2, ⟨#[97]⟩, 0, v⟩], [], [], [⟨3, ⟨#[]⟩, 0, 0⟩]], l, 1, 3⟩
def stA4 (v : Int) (l : List E) : S := ⟨[0, 0, 0, 389, 0, 0, 0, 0, 0, 0, 0, 0, 0, 0, 0, 0, 0, 0, 0, 0, 0, 0, 0, 0, 0, 0, 0, 0, 0, 0, 0, 0, 0, 0, 0, 0, 0, 0, 0, 0, 0, 0, 0, 0, 0, 0, 0, 0, 0, 0, 0, 0, 0, 0, 0, 0, 0, 0, 0, 0, 0, 0, 0, 0, 0, 0, 0, 0, 0, 0, 0], [zeroJ, zeroJ, zeroJ, zeroJ], [[⟨2, ⟨#[97]⟩, 0, v⟩], [], [], [⟨3, ⟨#[]⟩, 0, 0⟩]], l, 1, 4⟩
def stA5 (v : Int) (l : List E) : S := ⟨[0, 0, 0, 389, 0, 0, 0, 0, 0, 0, 0, 0, 0, 0, 0, 0, 0, 0, 0, 0, 0, 0, 0, 0, 0, 0, 0, 0, 0, 0, 0, 0, 0, 0, 0, 0, 0, 0, 0, 0, 0, 0, 0, 0, 0, 0, 0, 0, 0, 0, 0, 0, 0, 0, 0, 0, 0, 0, 0, 0, 0, 0, 0, 0, 0, 0, 0, 0, 0, 0, 0], [{ busy := true, op := ⟨2, ⟨#[97]⟩, 0, v⟩, serial := 2, pc := 0, k := 0, slot := 0, what := 0, e := 0, stamp := 0, old := 0, flips := 0, steps := 0, code := 0, keys := [], raw := [] }, zeroJ, zeroJ, zeroJ], [[], [], [], [⟨3, ⟨#[]⟩, 0, 0⟩]], l, 2, 5⟩
def stA6 (v : Int) (l : List E) : S := ⟨[0, 0, 0, 389, 0, 0, 0, 0, 0, 0, 0, 0, 0, 0, 0, 0, 0, 0, 0, 0, 0, 0, 0, 0, 0, 0, 0, 0, 0, 0, 0, 0, 0, 0, 0, 0, 0, 0, 0, 0, 0, 0, 0, 0, 0, 0, 0, 0, 0, 0, 0, 0, 0, 0, 0, 0, 0, 0, 0, 0, 0, 0, 0, 0, 0, 0, 0, 0, 0, 0, 0], [{ busy := true, op := ⟨2, ⟨#[97]⟩, 0, v⟩, serial := 2, pc := 2, k := 0, slot := 0, what := 1, e := 0, stamp := 0, old := 0, flips := 0, steps := 1, code := 0, keys := [], raw := [] }, zeroJ, zeroJ, zeroJ], [[], [], [], [⟨3, ⟨#[]⟩, 0, 0⟩]], l, 2, 6⟩
def stA7 (v : Int) (l : List E) : S := ⟨[0, 0, 0, 389, 0, 0, 0, 0, 0, 0, 0, 0, 0, 0, 0, 0, 0, 0, 0, 0, 0, 0, 0, 0, 0, 0, 0, 0, 0, 0, 0, 0, 0, 0, 0, 0, 0, 0, 0, 0, 0, 0, 0, 0, 0, 0, 0, 0, 0, 0, 0, 0, 0, 0, 0, 0, 0, 0, 0, 0, 0, 0, 0, 0, 0, 0, 0, 0, 0, 0, 0], [{ busy := true, op := ⟨2, ⟨#[97]⟩, 0, v⟩, serial := 2, pc := 3, k := 0, slot := 0, what := 1, e := 0, stamp := 0, old := 0, flips := 0, steps := 2, code := 0, keys := [], raw := [] }, zeroJ, zeroJ, zeroJ], [[], [], [], [⟨3, ⟨#[]⟩, 0, 0⟩]], l, 2, 7⟩
def stA8 (v : Int) (l : List E) : S := ⟨[0, 1, 0, 389, 0, 0, 0, 0, 0, 0, 0, 0, 0, 0, 0, 0, 0, 0, 0, 0, 0, 0, 0, 0, 0, 0, 0, 0, 0, 0, 0, 0, 0, 0, 0, 0, 0, 0, 0, 0, 0, 0, 0, 0, 0, 0, 0, 0, 0, 0, 0, 0, 0, 0, 0, 0, 0, 0, 0, 0, 0, 0, 0, 0, 0, 0, 0, 0, 0, 0, 0], [{ busy := true, op := ⟨2, ⟨#[97]⟩, 0, v⟩, serial := 2, pc := 4, k := 0, slot := 0, what := 1, e := 0, stamp := 0, old := 0, flips := 0, steps := 3, code := 0, keys := [], raw := [] }, zeroJ, zeroJ, zeroJ], [[], [], [], [⟨3, ⟨#[]⟩, 0, 0⟩]], l, 2, 8⟩
def stA9 (v : Int) (l : List E) : S := ⟨[0, 1, 0, 389, 0, 0, 0, 0, 0, 0, 0, 0, 0, 0, 0, 0, 0, 0, 0, 0, 0, 0, 0, 0, 0, 0, 0, 0, 0, 0, 0, 0, 0, 0, 0, 0, 0, 0, 0, 0, 0, 0, 0, 0, 0, 0, 0, 0, 0, 0, 0, 0, 0, 0, 0, 0, 0, 0, 0, 0, 0, 0, 0, 0, 0, 0, 0, 0, 0, 0, 0], [{ busy := true, op := ⟨2, ⟨#[97]⟩, 0, v⟩, serial := 2, pc := 5, k := 0, slot := 0, what := 1, e := 0, stamp := 0, old := 0, flips := 0, steps := 4, code := 0, keys := [], raw := [] }, zeroJ, zeroJ, zeroJ], [[], [], [], [⟨3, ⟨#[]⟩, 0, 0⟩]], l, 2, 9⟩
theorem goA1 (v : Int) (l : List E) : doF (stA0 v l) 0 = stA1 v (l ++ [⟨1, 0, 1, 1, ⟨1, ⟨#[97]⟩, 1, 0⟩, 0, -1, 0, 0, []⟩]) := rfl
theorem goA2 (v : Int) (l : List E) : doF (stA1 v l) 0 = stA2 v l := (doF_work (s := stA1 v l) (t := 0) rfl rfl ((work_probe rfl).trans (probe_none probeA rfl rfl))).trans rfl
theorem goA3 (v : Int) (l : List E) : doF (stA2 v l) 0 = stA3 v (l ++ [⟨2, 0, 1, 3, ⟨1, ⟨#[97]⟩, 1, 0⟩, 0, -1, 0, 0, []⟩]) := (doF_work (s := stA2 v l) (t := 0) rfl rfl ((work_claim rfl).trans (claim_free probeA rfl tagA))).trans rfl
theorem goA4 (v : Int) (l : List E) : doF (stA3 v l) 0 = stA4 v (l ++ [⟨3, 0, 1, 4, ⟨1, ⟨#[97]⟩, 1, 0⟩, 0, -1, 3, 0, []⟩]) := rfl
theorem goA5 (v : Int) (l : List E) : doF (stA4 v l) 0 = stA5 v (l ++ [⟨1, 0, 2, 5, ⟨2, ⟨#[97]⟩, 0, v⟩, 0, -1, 0, 0, []⟩]) := rfl
theorem goA6 (v : Int) (l : List E) : doF (stA5 v l) 0 = stA6 v l := (doF_work (s := stA5 v l) (t := 0) rfl rfl ((work_probe rfl).trans (probe_hit (c := 389) probeA rfl (by decide) tagKeyA tagKindA rfl))).trans rfl
theorem goA7 (v : Int) (l : List E) : doF (stA6 v l) 0 = stA7 v l := rfl
theorem goA8 (v : Int) (l : List E) : doF (stA7 v l) 0 = stA8 v l := rfl
theorem goA9 (v : Int) (l : List E) : doF (stA8 v l) 0 = stA9 v l := rfl
def stB1 (v : Int) (l : List E) : S := ⟨[0, 1, 0, 389, 0, 0, 0, 0, 0, 0, 0, 0, 0, 0, 0, 0, 0, 0, 0, 0, 0, 0, 0, 0, 0, 0, 0, 0, 0, 0, 0, 0, 0, 0, 0, 0, 0, 0, 0, 0, 0, 0, 0, 0, 0, 0, 0, 0, 0, 0, 0, 0, 0, 0, 0, 0, 0, 0, 0, 0, 0, 0, 0, 0, 0, 0, 0, 0, 0, 0, 0], [{ busy := true, op := ⟨2, ⟨#[97]⟩, 0, v⟩, serial := 2, pc := 5, k := 0, slot := 0, what := 1, e := 0, stamp := 0, old := 0, flips := 0, steps := 4, code := 0, keys := [], raw := [] }, zeroJ, zeroJ, { busy := true, op := ⟨3, ⟨#[]⟩, 0, 0⟩, serial := 3, pc := 12, k := 0, slot := 0, what := 0, e := 0, stamp := 0, old := 0, flips := 0, steps := 0, code := 0, keys := [], raw := [] }], [[], [], [], []], l, 3, 10⟩
theorem goB1 (v : Int) (l : List E) : doF (stA9 v l) 3 = stB1 v (l ++ [⟨1, 3, 3, 10, ⟨3, ⟨#[]⟩, 0, 0⟩, 0, -1, 0, 0, []⟩]) := rfl
def stC0 (v x n : Int) (l : List E) : S := ⟨[1, 1, 0, 389, 0, 0, 0, 0, 0, 0, 0, 0, 0, 0, 0, 0, 0, 0, 0, 0, 0, 0, 0, 0, 0, 0, 0, 0, 0, 0, 0, 0, 0, 0, 0, 0, 0, 0, 0, 0, 0, 0, 0, 0, 0, 0, 0, 0, 0, 0, 0, 0, 0, 0, 0, 0, 0, 0, 0, 0, 0, 0, 0, 0, 0, 0, 0, 0, 0, 0, 0], [{ busy := true, op := ⟨2, ⟨#[97]⟩, 0, v⟩, serial := 2, pc := 5, k := 0, slot := 0, what := 1, e := 0, stamp := 0, old := 0, flips := 0, steps := 4, code := 0, keys := [], raw := [] }, zeroJ, zeroJ, { busy := true, op := ⟨3, ⟨#[]⟩, 0, 0⟩, serial := 3, pc := 13, k := 0, slot := 0, what := 0, e := 0, stamp := 0, old := 0, flips := 0, steps := x, code := 0, keys := [], raw := [] }], [[], [], [], []], l, 3, n⟩
theorem goB2 (v : Int) (l : List E) : doF (stB1 v l) 3 = stC0 v 1 11 (l ++ [⟨2, 3, 3, 11, ⟨3, ⟨#[]⟩, 0, 0⟩, 0, 0, 0, 0, []⟩]) := rfl
theorem waitC (v x n : Int) (l : List E) : doF (stC0 v x n l) 3 = stC0 v (bump x) (n + 1) l := rfl
def stC1 (v x n : Int) (l : List E) : S := ⟨[1, 1, 0, 389, 0, 0, 0, modW (0 + v), 0, 0, 0, 0, 0, 0, 0, 0, 0, 0, 0, 0, 0, 0, 0, 0, 0, 0, 0, 0, 0, 0, 0, 0, 0, 0, 0, 0, 0, 0, 0, 0, 0, 0, 0, 0, 0, 0, 0, 0, 0, 0, 0, 0, 0, 0, 0, 0, 0, 0, 0, 0, 0, 0, 0, 0, 0, 0, 0, 0, 0, 0, 0], [{ busy := true, op := ⟨2, ⟨#[97]⟩, 0, v⟩, serial := 2, pc := 9, k := 0, slot := 0, what := 1, e := 0, stamp := 0, old := 0, flips := 0, steps := 5, code := 0, keys := [], raw := [] }, zeroJ, zeroJ, { busy := true, op := ⟨3, ⟨#[]⟩, 0, 0⟩, serial := 3, pc := 13, k := 0, slot := 0, what := 0, e := 0, stamp := 0, old := 0, flips := 0, steps := x, code := 0, keys := [], raw := [] }], [[], [], [], []], l, 3, n⟩
theorem goC1 (v x n : Int) (l : List E) : doF (stC0 v x n l) 0 = stC1 v (x) (n + 1) (l ++ [⟨2, 0, 2, n + 1, ⟨2, ⟨#[97]⟩, 0, v⟩, 0, 0, 0, 0, []⟩]) := rfl
theorem reC1_1 (v x n : Int) (l : List E) : doF (stC1 v x n l) 1 = stC1 v x n l := rest_F rfl rfl
theorem reC1_2 (v x n : Int) (l : List E) : doF (stC1 v x n l) 2 = stC1 v x n l := rest_F rfl rfl
def stC2 (v x n : Int) (l : List E) : S := ⟨[1, 1, 0, 389, 0, 0, 0, modW (0 + v), 0, 0, 0, 0, 0, 0, 0, 0, 0, 0, 0, 0, 0, 0, 0, 0, 0, 0, 0, 0, 0, 0, 0, 0, 0, 0, 0, 0, 0, 0, 0, 0, 0, 0, 0, 0, 0, 0, 0, 0, 0, 0, 0, 0, 0, 0, 0, 0, 0, 0, 0, 0, 0, 0, 0, 0, 0, 0, 0, 0, 0, 0, 0], [{ busy := true, op := ⟨2, ⟨#[97]⟩, 0, v⟩, serial := 2, pc := 9, k := 0, slot := 0, what := 1, e := 0, stamp := 0, old := 0, flips := 0, steps := 5, code := 0, keys := [], raw := [] }, zeroJ, zeroJ, { busy := true, op := ⟨3, ⟨#[]⟩, 0, 0⟩, serial := 3, pc := 13, k := 0, slot := 0, what := 0, e := 0, stamp := 0, old := 0, flips := 0, steps := x, code := 0, keys := [], raw := [] }], [[], [], [], []], l, 3, n⟩
theorem goC2 (v x n : Int) (l : List E) : doF (stC1 v x n l) 3 = stC2 v (bump x) (n + 1) l := rfl
theorem roundC0 (v x n : Int) (l : List E) : roundF (stC0 v x n l) = stC2 v (bump x) (n + 1 + 1) (l ++ [⟨2, 0, 2, n + 1, ⟨2, ⟨#[97]⟩, 0, v⟩, 0, 0, 0, 0, []⟩]) := by
  unfold roundF
  rw [goC1, reC1_1, reC1_2, goC2]
def stC3 (v x n : Int) (l : List E) : S := ⟨[1, 0, 0, 389, 0, 0, 0, modW (0 + v), 0, 0, 0, 0, 0, 0, 0, 0, 0, 0, 0, 0, 0, 0, 0, 0, 0, 0, 0, 0, 0, 0, 0, 0, 0, 0, 0, 0, 0, 0, 0, 0, 0, 0, 0, 0, 0, 0, 0, 0, 0, 0, 0, 0, 0, 0, 0, 0, 0, 0, 0, 0, 0, 0, 0, 0, 0, 0, 0, 0, 0, 0, 0], [{ busy := true, op := ⟨2, ⟨#[97]⟩, 0, v⟩, serial := 2, pc := 11, k := 0, slot := 0, what := 1, e := 0, stamp := 0, old := 0, flips := 0, steps := 6, code := 0, keys := [], raw := [] }, zeroJ, zeroJ, { busy := true, op := ⟨3, ⟨#[]⟩, 0, 0⟩, serial := 3, pc := 13, k := 0, slot := 0, what := 0, e := 0, stamp := 0, old := 0, flips := 0, steps := x, code := 0, keys := [], raw := [] }], [[], [], [], []], l, 3, n⟩
theorem goC3 (v x n : Int) (l : List E) : doF (stC2 v x n l) 0 = stC3 v (x) (n + 1) l := rfl
theorem reC3_1 (v x n : Int) (l : List E) : doF (stC3 v x n l) 1 = stC3 v x n l := rest_F rfl rfl
theorem reC3_2 (v x n : Int) (l : List E) : doF (stC3 v x n l) 2 = stC3 v x n l := rest_F rfl rfl
def stC4 (v x n : Int) (l : List E) : S := ⟨[1, 0, 0, 389, 0, 0, 0, modW (0 + v), 0, 0, 0, 0, 0, 0, 0, 0, 0, 0, 0, 0, 0, 0, 0, 0, 0, 0, 0, 0, 0, 0, 0, 0, 0, 0, 0, 0, 0, 0, 0, 0, 0, 0, 0, 0, 0, 0, 0, 0, 0, 0, 0, 0, 0, 0, 0, 0, 0, 0, 0, 0, 0, 0, 0, 0, 0, 0, 0, 0, 0, 0, 0], [{ busy := true, op := ⟨2, ⟨#[97]⟩, 0, v⟩, serial := 2, pc := 11, k := 0, slot := 0, what := 1, e := 0, stamp := 0, old := 0, flips := 0, steps := 6, code := 0, keys := [], raw := [] }, zeroJ, zeroJ, { busy := true, op := ⟨3, ⟨#[]⟩, 0, 0⟩, serial := 3, pc := 14, k := 0, slot := 0, what := 0, e := 0, stamp := 0, old := 0, flips := 0, steps := x, code := 0, keys := [], raw := [] }], [[], [], [], []], l, 3, n⟩
theorem goC4 (v x n : Int) (l : List E) : doF (stC3 v x n l) 3 = stC4 v (bump x) (n + 1) l := rfl
theorem roundC1 (v x n : Int) (l : List E) : roundF (stC2 v x n l) = stC4 v (bump x) (n + 1 + 1) (l) := by
  unfold roundF
  rw [goC3, reC3_1, reC3_2, goC4]
def stC5 (v x n : Int) (l : List E) : S := ⟨[1, 0, 0, 389, 0, 0, 0, modW (0 + v), 0, 0, 0, 0, 0, 0, 0, 0, 0, 0, 0, 0, 0, 0, 0, 0, 0, 0, 0, 0, 0, 0, 0, 0, 0, 0, 0, 0, 0, 0, 0, 0, 0, 0, 0, 0, 0, 0, 0, 0, 0, 0, 0, 0, 0, 0, 0, 0, 0, 0, 0, 0, 0, 0, 0, 0, 0, 0, 0, 0, 0, 0, 0], [zeroJ, zeroJ, zeroJ, { busy := true, op := ⟨3, ⟨#[]⟩, 0, 0⟩, serial := 3, pc := 14, k := 0, slot := 0, what := 0, e := 0, stamp := 0, old := 0, flips := 0, steps := x, code := 0, keys := [], raw := [] }], [[], [], [], []], l, 3, n⟩
theorem goC5 (v x n : Int) (l : List E) : doF (stC4 v x n l) 0 = stC5 v (x) (n + 1) (l ++ [⟨3, 0, 2, n + 1, ⟨2, ⟨#[97]⟩, 0, v⟩, 0, -1, 7, 0, []⟩]) := rfl
theorem reC5_1 (v x n : Int) (l : List E) : doF (stC5 v x n l) 1 = stC5 v x n l := rest_F rfl rfl
theorem reC5_2 (v x n : Int) (l : List E) : doF (stC5 v x n l) 2 = stC5 v x n l := rest_F rfl rfl
def stC6 (v x n : Int) (l : List E) : S := ⟨[1, 0, 0, 389, 0, 0, 0, modW (0 + v), 0, 0, 0, 0, 0, 0, 0, 0, 0, 0, 0, 0, 0, 0, 0, 0, 0, 0, 0, 0, 0, 0, 0, 0, 0, 0, 0, 0, 0, 0, 0, 0, 0, 0, 0, 0, 0, 0, 0, 0, 0, 0, 0, 0, 0, 0, 0, 0, 0, 0, 0, 0, 0, 0, 0, 0, 0, 0, 0, 0, 0, 0, 0], [zeroJ, zeroJ, zeroJ, { busy := true, op := ⟨3, ⟨#[]⟩, 0, 0⟩, serial := 3, pc := 14, k := 1, slot := 0, what := 0, e := 0, stamp := 0, old := 0, flips := 0, steps := x, code := 0, keys := [389], raw := [] }], [[], [], [], []], l, 3, n⟩
theorem goC6 (v x n : Int) (l : List E) : doF (stC5 v x n l) 3 = stC6 v (bump x) (n + 1) l := rfl
theorem roundC2 (v x n : Int) (l : List E) : roundF (stC4 v x n l) = stC6 v (bump x) (n + 1 + 1) (l ++ [⟨3, 0, 2, n + 1, ⟨2, ⟨#[97]⟩, 0, v⟩, 0, -1, 7, 0, []⟩]) := by
  unfold roundF
  rw [goC5, reC5_1, reC5_2, goC6]
theorem reC6_0 (v x n : Int) (l : List E) : doF (stC6 v x n l) 0 = stC6 v x n l := rest_F rfl rfl
theorem reC6_1 (v x n : Int) (l : List E) : doF (stC6 v x n l) 1 = stC6 v x n l := rest_F rfl rfl
theorem reC6_2 (v x n : Int) (l : List E) : doF (stC6 v x n l) 2 = stC6 v x n l := rest_F rfl rfl
def stC7 (v x n : Int) (l : List E) : S := ⟨[1, 0, 0, 389, 0, 0, 0, modW (0 + v), 0, 0, 0, 0, 0, 0, 0, 0, 0, 0, 0, 0, 0, 0, 0, 0, 0, 0, 0, 0, 0, 0, 0, 0, 0, 0, 0, 0, 0, 0, 0, 0, 0, 0, 0, 0, 0, 0, 0, 0, 0, 0, 0, 0, 0, 0, 0, 0, 0, 0, 0, 0, 0, 0, 0, 0, 0, 0, 0, 0, 0, 0, 0], [zeroJ, zeroJ, zeroJ, { busy := true, op := ⟨3, ⟨#[]⟩, 0, 0⟩, serial := 3, pc := 14, k := 2, slot := 0, what := 0, e := 0, stamp := 0, old := 0, flips := 0, steps := x, code := 0, keys := [389, 0], raw := [] }], [[], [], [], []], l, 3, n⟩
theorem goC7 (v x n : Int) (l : List E) : doF (stC6 v x n l) 3 = stC7 v (bump x) (n + 1) l := rfl
theorem roundC3 (v x n : Int) (l : List E) : roundF (stC6 v x n l) = stC7 v (bump x) (n + 1) (l) := by
  unfold roundF
  rw [reC6_0, reC6_1, reC6_2, goC7]
theorem reC7_0 (v x n : Int) (l : List E) : doF (stC7 v x n l) 0 = stC7 v x n l := rest_F rfl rfl
theorem reC7_1 (v x n : Int) (l : List E) : doF (stC7 v x n l) 1 = stC7 v x n l := rest_F rfl rfl
theorem reC7_2 (v x n : Int) (l : List E) : doF (stC7 v x n l) 2 = stC7 v x n l := rest_F rfl rfl
def stC8 (v x n : Int) (l : List E) : S := ⟨[1, 0, 0, 389, 0, 0, 0, modW (0 + v), 0, 0, 0, 0, 0, 0, 0, 0, 0, 0, 0, 0, 0, 0, 0, 0, 0, 0, 0, 0, 0, 0, 0, 0, 0, 0, 0, 0, 0, 0, 0, 0, 0, 0, 0, 0, 0, 0, 0, 0, 0, 0, 0, 0, 0, 0, 0, 0, 0, 0, 0, 0, 0, 0, 0, 0, 0, 0, 0, 0, 0, 0, 0], [zeroJ, zeroJ, zeroJ, { busy := true, op := ⟨3, ⟨#[]⟩, 0, 0⟩, serial := 3, pc := 14, k := 3, slot := 0, what := 0, e := 0, stamp := 0, old := 0, flips := 0, steps := x, code := 0, keys := [389, 0, 0], raw := [] }], [[], [], [], []], l, 3, n⟩
theorem goC8 (v x n : Int) (l : List E) : doF (stC7 v x n l) 3 = stC8 v (bump x) (n + 1) l := rfl
theorem roundC4 (v x n : Int) (l : List E) : roundF (stC7 v x n l) = stC8 v (bump x) (n + 1) (l) := by
  unfold roundF
  rw [reC7_0, reC7_1, reC7_2, goC8]
theorem reC8_0 (v x n : Int) (l : List E) : doF (stC8 v x n l) 0 = stC8 v x n l := rest_F rfl rfl
theorem reC8_1 (v x n : Int) (l : List E) : doF (stC8 v x n l) 1 = stC8 v x n l := rest_F rfl rfl
theorem reC8_2 (v x n : Int) (l : List E) : doF (stC8 v x n l) 2 = stC8 v x n l := rest_F rfl rfl
def stC9 (v x n : Int) (l : List E) : S := ⟨[1, 0, 0, 389, 0, 0, 0, modW (0 + v), 0, 0, 0, 0, 0, 0, 0, 0, 0, 0, 0, 0, 0, 0, 0, 0, 0, 0, 0, 0, 0, 0, 0, 0, 0, 0, 0, 0, 0, 0, 0, 0, 0, 0, 0, 0, 0, 0, 0, 0, 0, 0, 0, 0, 0, 0, 0, 0, 0, 0, 0, 0, 0, 0, 0, 0, 0, 0, 0, 0, 0, 0, 0], [zeroJ, zeroJ, zeroJ, { busy := true, op := ⟨3, ⟨#[]⟩, 0, 0⟩, serial := 3, pc := 15, k := 0, slot := 0, what := 0, e := 0, stamp := 0, old := 0, flips := 0, steps := x, code := 0, keys := [389, 0, 0, 0], raw := [] }], [[], [], [], []], l, 3, n⟩
theorem goC9 (v x n : Int) (l : List E) : doF (stC8 v x n l) 3 = stC9 v (bump x) (n + 1) l := rfl
theorem roundC5 (v x n : Int) (l : List E) : roundF (stC8 v x n l) = stC9 v (bump x) (n + 1) (l) := by
  unfold roundF
  rw [reC8_0, reC8_1, reC8_2, goC9]
theorem reC9_0 (v x n : Int) (l : List E) : doF (stC9 v x n l) 0 = stC9 v x n l := rest_F rfl rfl
theorem reC9_1 (v x n : Int) (l : List E) : doF (stC9 v x n l) 1 = stC9 v x n l := rest_F rfl rfl
theorem reC9_2 (v x n : Int) (l : List E) : doF (stC9 v x n l) 2 = stC9 v x n l := rest_F rfl rfl
def stC10 (v x n : Int) (l : List E) : S := ⟨[1, 0, 0, 389, 0, 0, 0, 0, 0, 0, 0, 0, 0, 0, 0, 0, 0, 0, 0, 0, 0, 0, 0, 0, 0, 0, 0, 0, 0, 0, 0, 0, 0, 0, 0, 0, 0, 0, 0, 0, 0, 0, 0, 0, 0, 0, 0, 0, 0, 0, 0, 0, 0, 0, 0, 0, 0, 0, 0, 0, 0, 0, 0, 0, 0, 0, 0, 0, 0, 0, 0], [zeroJ, zeroJ, zeroJ, { busy := true, op := ⟨3, ⟨#[]⟩, 0, 0⟩, serial := 3, pc := 15, k := 1, slot := 0, what := 0, e := 0, stamp := 0, old := 0, flips := 0, steps := x, code := 0, keys := [389, 0, 0, 0], raw := [modW (0 + v)] }], [[], [], [], []], l, 3, n⟩
theorem goC10 (v x n : Int) (l : List E) : doF (stC9 v x n l) 3 = stC10 v (bump x) (n + 1) l := rfl
theorem roundC6 (v x n : Int) (l : List E) : roundF (stC9 v x n l) = stC10 v (bump x) (n + 1) (l) := by
  unfold roundF
  rw [reC9_0, reC9_1, reC9_2, goC10]
theorem reC10_0 (v x n : Int) (l : List E) : doF (stC10 v x n l) 0 = stC10 v x n l := rest_F rfl rfl
theorem reC10_1 (v x n : Int) (l : List E) : doF (stC10 v x n l) 1 = stC10 v x n l := rest_F rfl rfl
theorem reC10_2 (v x n : Int) (l : List E) : doF (stC10 v x n l) 2 = stC10 v x n l := rest_F rfl rfl
def stC11 (v x n : Int) (l : List E) : S := ⟨[1, 0, 0, 389, 0, 0, 0, 0, 0, 0, 0, 0, 0, 0, 0, 0, 0, 0, 0, 0, 0, 0, 0, 0, 0, 0, 0, 0, 0, 0, 0, 0, 0, 0, 0, 0, 0, 0, 0, 0, 0, 0, 0, 0, 0, 0, 0, 0, 0, 0, 0, 0, 0, 0, 0, 0, 0, 0, 0, 0, 0, 0, 0, 0, 0, 0, 0, 0, 0, 0, 0], [zeroJ, zeroJ, zeroJ, { busy := true, op := ⟨3, ⟨#[]⟩, 0, 0⟩, serial := 3, pc := 15, k := 2, slot := 0, what := 0, e := 0, stamp := 0, old := 0, flips := 0, steps := x, code := 0, keys := [389, 0, 0, 0], raw := [modW (0 + v), 0] }], [[], [], [], []], l, 3, n⟩
theorem goC11 (v x n : Int) (l : List E) : doF (stC10 v x n l) 3 = stC11 v (bump x) (n + 1) l := rfl
theorem roundC7 (v x n : Int) (l : List E) : roundF (stC10 v x n l) = stC11 v (bump x) (n + 1) (l) := by
  unfold roundF
  rw [reC10_0, reC10_1, reC10_2, goC11]
theorem reC11_0 (v x n : Int) (l : List E) : doF (stC11 v x n l) 0 = stC11 v x n l := rest_F rfl rfl
theorem reC11_1 (v x n : Int) (l : List E) : doF (stC11 v x n l) 1 = stC11 v x n l := rest_F rfl rfl
theorem reC11_2 (v x n : Int) (l : List E) : doF (stC11 v x n l) 2 = stC11 v x n l := rest_F rfl rfl
def stC12 (v x n : Int) (l : List E) : S := ⟨[1, 0, 0, 389, 0, 0, 0, 0, 0, 0, 0, 0, 0, 0, 0, 0, 0, 0, 0, 0, 0, 0, 0, 0, 0, 0, 0, 0, 0, 0, 0, 0, 0, 0, 0, 0, 0, 0, 0, 0, 0, 0, 0, 0, 0, 0, 0, 0, 0, 0, 0, 0, 0, 0, 0, 0, 0, 0, 0, 0, 0, 0, 0, 0, 0, 0, 0, 0, 0, 0, 0], [zeroJ, zeroJ, zeroJ, { busy := true, op := ⟨3, ⟨#[]⟩, 0, 0⟩, serial := 3, pc := 15, k := 3, slot := 0, what := 0, e := 0, stamp := 0, old := 0, flips := 0, steps := x, code := 0, keys := [389, 0, 0, 0], raw := [modW (0 + v), 0, 0] }], [[], [], [], []], l, 3, n⟩
theorem goC12 (v x n : Int) (l : List E) : doF (stC11 v x n l) 3 = stC12 v (bump x) (n + 1) l := rfl
theorem roundC8 (v x n : Int) (l : List E) : roundF (stC11 v x n l) = stC12 v (bump x) (n + 1) (l) := by
  unfold roundF
  rw [reC11_0, reC11_1, reC11_2, goC12]
theorem reC12_0 (v x n : Int) (l : List E) : doF (stC12 v x n l) 0 = stC12 v x n l := rest_F rfl rfl
theorem reC12_1 (v x n : Int) (l : List E) : doF (stC12 v x n l) 1 = stC12 v x n l := rest_F rfl rfl
theorem reC12_2 (v x n : Int) (l : List E) : doF (stC12 v x n l) 2 = stC12 v x n l := rest_F rfl rfl
def stC13 (v x n : Int) (l : List E) : S := ⟨[1, 0, 0, 389, 0, 0, 0, 0, 0, 0, 0, 0, 0, 0, 0, 0, 0, 0, 0, 0, 0, 0, 0, 0, 0, 0, 0, 0, 0, 0, 0, 0, 0, 0, 0, 0, 0, 0, 0, 0, 0, 0, 0, 0, 0, 0, 0, 0, 0, 0, 0, 0, 0, 0, 0, 0, 0, 0, 0, 0, 0, 0, 0, 0, 0, 0, 0, 0, 0, 0, 0], [zeroJ, zeroJ, zeroJ, { busy := true, op := ⟨3, ⟨#[]⟩, 0, 0⟩, serial := 3, pc := 15, k := 4, slot := 0, what := 0, e := 0, stamp := 0, old := 0, flips := 0, steps := x, code := 0, keys := [389, 0, 0, 0], raw := [modW (0 + v), 0, 0, 0] }], [[], [], [], []], l, 3, n⟩
theorem goC13 (v x n : Int) (l : List E) : doF (stC12 v x n l) 3 = stC13 v (bump x) (n + 1) l := rfl
theorem roundC9 (v x n : Int) (l : List E) : roundF (stC12 v x n l) = stC13 v (bump x) (n + 1) (l) := by
  unfold roundF
  rw [reC12_0, reC12_1, reC12_2, goC13]
theorem reC13_0 (v x n : Int) (l : List E) : doF (stC13 v x n l) 0 = stC13 v x n l := rest_F rfl rfl
theorem reC13_1 (v x n : Int) (l : List E) : doF (stC13 v x n l) 1 = stC13 v x n l := rest_F rfl rfl
theorem reC13_2 (v x n : Int) (l : List E) : doF (stC13 v x n l) 2 = stC13 v x n l := rest_F rfl rfl
def stC14 (v x n : Int) (l : List E) : S := ⟨[1, 0, 0, 389, 0, 0, 0, 0, 0, 0, 0, 0, 0, 0, 0, 0, 0, 0, 0, 0, 0, 0, 0, 0, 0, 0, 0, 0, 0, 0, 0, 0, 0, 0, 0, 0, 0, 0, 0, 0, 0, 0, 0, 0, 0, 0, 0, 0, 0, 0, 0, 0, 0, 0, 0, 0, 0, 0, 0, 0, 0, 0, 0, 0, 0, 0, 0, 0, 0, 0, 0], [zeroJ, zeroJ, zeroJ, { busy := true, op := ⟨3, ⟨#[]⟩, 0, 0⟩, serial := 3, pc := 15, k := 5, slot := 0, what := 0, e := 0, stamp := 0, old := 0, flips := 0, steps := x, code := 0, keys := [389, 0, 0, 0], raw := [modW (0 + v), 0, 0, 0, 0] }], [[], [], [], []], l, 3, n⟩
theorem goC14 (v x n : Int) (l : List E) : doF (stC13 v x n l) 3 = stC14 v (bump x) (n + 1) l := rfl
theorem roundC10 (v x n : Int) (l : List E) : roundF (stC13 v x n l) = stC14 v (bump x) (n + 1) (l) := by
  unfold roundF
  rw [reC13_0, reC13_1, reC13_2, goC14]
theorem reC14_0 (v x n : Int) (l : List E) : doF (stC14 v x n l) 0 = stC14 v x n l := rest_F rfl rfl
theorem reC14_1 (v x n : Int) (l : List E) : doF (stC14 v x n l) 1 = stC14 v x n l := rest_F rfl rfl
theorem reC14_2 (v x n : Int) (l : List E) : doF (stC14 v x n l) 2 = stC14 v x n l := rest_F rfl rfl
def stC15 (v x n : Int) (l : List E) : S := ⟨[1, 0, 0, 389, 0, 0, 0, 0, 0, 0, 0, 0, 0, 0, 0, 0, 0, 0, 0, 0, 0, 0, 0, 0, 0, 0, 0, 0, 0, 0, 0, 0, 0, 0, 0, 0, 0, 0, 0, 0, 0, 0, 0, 0, 0, 0, 0, 0, 0, 0, 0, 0, 0, 0, 0, 0, 0, 0, 0, 0, 0, 0, 0, 0, 0, 0, 0, 0, 0, 0, 0], [zeroJ, zeroJ, zeroJ, { busy := true, op := ⟨3, ⟨#[]⟩, 0, 0⟩, serial := 3, pc := 15, k := 6, slot := 0, what := 0, e := 0, stamp := 0, old := 0, flips := 0, steps := x, code := 0, keys := [389, 0, 0, 0], raw := [modW (0 + v), 0, 0, 0, 0, 0] }], [[], [], [], []], l, 3, n⟩
theorem goC15 (v x n : Int) (l : List E) : doF (stC14 v x n l) 3 = stC15 v (bump x) (n + 1) l := rfl
theorem roundC11 (v x n : Int) (l : List E) : roundF (stC14 v x n l) = stC15 v (bump x) (n + 1) (l) := by
  unfold roundF
  rw [reC14_0, reC14_1, reC14_2, goC15]
theorem reC15_0 (v x n : Int) (l : List E) : doF (stC15 v x n l) 0 = stC15 v x n l := rest_F rfl rfl
theorem reC15_1 (v x n : Int) (l : List E) : doF (stC15 v x n l) 1 = stC15 v x n l := rest_F rfl rfl
theorem reC15_2 (v x n : Int) (l : List E) : doF (stC15 v x n l) 2 = stC15 v x n l := rest_F rfl rfl
def stC16 (v x n : Int) (l : List E) : S := ⟨[1, 0, 0, 389, 0, 0, 0, 0, 0, 0, 0, 0, 0, 0, 0, 0, 0, 0, 0, 0, 0, 0, 0, 0, 0, 0, 0, 0, 0, 0, 0, 0, 0, 0, 0, 0, 0, 0, 0, 0, 0, 0, 0, 0, 0, 0, 0, 0, 0, 0, 0, 0, 0, 0, 0, 0, 0, 0, 0, 0, 0, 0, 0, 0, 0, 0, 0, 0, 0, 0, 0], [zeroJ, zeroJ, zeroJ, { busy := true, op := ⟨3, ⟨#[]⟩, 0, 0⟩, serial := 3, pc := 15, k := 7, slot := 0, what := 0, e := 0, stamp := 0, old := 0, flips := 0, steps := x, code := 0, keys := [389, 0, 0, 0], raw := [modW (0 + v), 0, 0, 0, 0, 0, 0] }], [[], [], [], []], l, 3, n⟩
theorem goC16 (v x n : Int) (l : List E) : doF (stC15 v x n l) 3 = stC16 v (bump x) (n + 1) l := rfl
theorem roundC12 (v x n : Int) (l : List E) : roundF (stC15 v x n l) = stC16 v (bump x) (n + 1) (l) := by
  unfold roundF
  rw [reC15_0, reC15_1, reC15_2, goC16]
theorem reC16_0 (v x n : Int) (l : List E) : doF (stC16 v x n l) 0 = stC16 v x n l := rest_F rfl rfl
theorem reC16_1 (v x n : Int) (l : List E) : doF (stC16 v x n l) 1 = stC16 v x n l := rest_F rfl rfl
theorem reC16_2 (v x n : Int) (l : List E) : doF (stC16 v x n l) 2 = stC16 v x n l := rest_F rfl rfl
def stC17 (v x n : Int) (l : List E) : S := ⟨[1, 0, 0, 389, 0, 0, 0, 0, 0, 0, 0, 0, 0, 0, 0, 0, 0, 0, 0, 0, 0, 0, 0, 0, 0, 0, 0, 0, 0, 0, 0, 0, 0, 0, 0, 0, 0, 0, 0, 0, 0, 0, 0, 0, 0, 0, 0, 0, 0, 0, 0, 0, 0, 0, 0, 0, 0, 0, 0, 0, 0, 0, 0, 0, 0, 0, 0, 0, 0, 0, 0], [zeroJ, zeroJ, zeroJ, { busy := true, op := ⟨3, ⟨#[]⟩, 0, 0⟩, serial := 3, pc := 15, k := 8, slot := 0, what := 0, e := 0, stamp := 0, old := 0, flips := 0, steps := x, code := 0, keys := [389, 0, 0, 0], raw := [modW (0 + v), 0, 0, 0, 0, 0, 0, 0] }], [[], [], [], []], l, 3, n⟩
theorem goC17 (v x n : Int) (l : List E) : doF (stC16 v x n l) 3 = stC17 v (bump x) (n + 1) l := rfl
theorem roundC13 (v x n : Int) (l : List E) : roundF (stC16 v x n l) = stC17 v (bump x) (n + 1) (l) := by
  unfold roundF
  rw [reC16_0, reC16_1, reC16_2, goC17]
theorem reC17_0 (v x n : Int) (l : List E) : doF (stC17 v x n l) 0 = stC17 v x n l := rest_F rfl rfl
theorem reC17_1 (v x n : Int) (l : List E) : doF (stC17 v x n l) 1 = stC17 v x n l := rest_F rfl rfl
theorem reC17_2 (v x n : Int) (l : List E) : doF (stC17 v x n l) 2 = stC17 v x n l := rest_F rfl rfl
def stC18 (v x n : Int) (l : List E) : S := ⟨[1, 0, 0, 389, 0, 0, 0, 0, 0, 0, 0, 0, 0, 0, 0, 0, 0, 0, 0, 0, 0, 0, 0, 0, 0, 0, 0, 0, 0, 0, 0, 0, 0, 0, 0, 0, 0, 0, 0, 0, 0, 0, 0, 0, 0, 0, 0, 0, 0, 0, 0, 0, 0, 0, 0, 0, 0, 0, 0, 0, 0, 0, 0, 0, 0, 0, 0, 0, 0, 0, 0], [zeroJ, zeroJ, zeroJ, { busy := true, op := ⟨3, ⟨#[]⟩, 0, 0⟩, serial := 3, pc := 15, k := 9, slot := 0, what := 0, e := 0, stamp := 0, old := 0, flips := 0, steps := x, code := 0, keys := [389, 0, 0, 0], raw := [modW (0 + v), 0, 0, 0, 0, 0, 0, 0, 0] }], [[], [], [], []], l, 3, n⟩
theorem goC18 (v x n : Int) (l : List E) : doF (stC17 v x n l) 3 = stC18 v (bump x) (n + 1) l := rfl
theorem roundC14 (v x n : Int) (l : List E) : roundF (stC17 v x n l) = stC18 v (bump x) (n + 1) (l) := by
  unfold roundF
  rw [reC17_0, reC17_1, reC17_2, goC18]
theorem reC18_0 (v x n : Int) (l : List E) : doF (stC18 v x n l) 0 = stC18 v x n l := rest_F rfl rfl
theorem reC18_1 (v x n : Int) (l : List E) : doF (stC18 v x n l) 1 = stC18 v x n l := rest_F rfl rfl
theorem reC18_2 (v x n : Int) (l : List E) : doF (stC18 v x n l) 2 = stC18 v x n l := rest_F rfl rfl
def stC19 (v x n : Int) (l : List E) : S := ⟨[1, 0, 0, 389, 0, 0, 0, 0, 0, 0, 0, 0, 0, 0, 0, 0, 0, 0, 0, 0, 0, 0, 0, 0, 0, 0, 0, 0, 0, 0, 0, 0, 0, 0, 0, 0, 0, 0, 0, 0, 0, 0, 0, 0, 0, 0, 0, 0, 0, 0, 0, 0, 0, 0, 0, 0, 0, 0, 0, 0, 0, 0, 0, 0, 0, 0, 0, 0, 0, 0, 0], [zeroJ, zeroJ, zeroJ, { busy := true, op := ⟨3, ⟨#[]⟩, 0, 0⟩, serial := 3, pc := 15, k := 10, slot := 0, what := 0, e := 0, stamp := 0, old := 0, flips := 0, steps := x, code := 0, keys := [389, 0, 0, 0], raw := [modW (0 + v), 0, 0, 0, 0, 0, 0, 0, 0, 0] }], [[], [], [], []], l, 3, n⟩
theorem goC19 (v x n : Int) (l : List E) : doF (stC18 v x n l) 3 = stC19 v (bump x) (n + 1) l := rfl
theorem roundC15 (v x n : Int) (l : List E) : roundF (stC18 v x n l) = stC19 v (bump x) (n + 1) (l) := by
  unfold roundF
  rw [reC18_0, reC18_1, reC18_2, goC19]
theorem reC19_0 (v x n : Int) (l : List E) : doF (stC19 v x n l) 0 = stC19 v x n l := rest_F rfl rfl
theorem reC19_1 (v x n : Int) (l : List E) : doF (stC19 v x n l) 1 = stC19 v x n l := rest_F rfl rfl
theorem reC19_2 (v x n : Int) (l : List E) : doF (stC19 v x n l) 2 = stC19 v x n l := rest_F rfl rfl
def stC20 (v x n : Int) (l : List E) : S := ⟨[1, 0, 0, 389, 0, 0, 0, 0, 0, 0, 0, 0, 0, 0, 0, 0, 0, 0, 0, 0, 0, 0, 0, 0, 0, 0, 0, 0, 0, 0, 0, 0, 0, 0, 0, 0, 0, 0, 0, 0, 0, 0, 0, 0, 0, 0, 0, 0, 0, 0, 0, 0, 0, 0, 0, 0, 0, 0, 0, 0, 0, 0, 0, 0, 0, 0, 0, 0, 0, 0, 0], [zeroJ, zeroJ, zeroJ, { busy := true, op := ⟨3, ⟨#[]⟩, 0, 0⟩, serial := 3, pc := 15, k := 11, slot := 0, what := 0, e := 0, stamp := 0, old := 0, flips := 0, steps := x, code := 0, keys := [389, 0, 0, 0], raw := [modW (0 + v), 0, 0, 0, 0, 0, 0, 0, 0, 0, 0] }], [[], [], [], []], l, 3, n⟩
theorem goC20 (v x n : Int) (l : List E) : doF (stC19 v x n l) 3 = stC20 v (bump x) (n + 1) l := rfl
theorem roundC16 (v x n : Int) (l : List E) : roundF (stC19 v x n l) = stC20 v (bump x) (n + 1) (l) := by
  unfold roundF
  rw [reC19_0, reC19_1, reC19_2, goC20]
theorem reC20_0 (v x n : Int) (l : List E) : doF (stC20 v x n l) 0 = stC20 v x n l := rest_F rfl rfl
theorem reC20_1 (v x n : Int) (l : List E) : doF (stC20 v x n l) 1 = stC20 v x n l := rest_F rfl rfl
theorem reC20_2 (v x n : Int) (l : List E) : doF (stC20 v x n l) 2 = stC20 v x n l := rest_F rfl rfl
def stC21 (v x n : Int) (l : List E) : S := ⟨[1, 0, 0, 389, 0, 0, 0, 0, 0, 0, 0, 0, 0, 0, 0, 0, 0, 0, 0, 0, 0, 0, 0, 0, 0, 0, 0, 0, 0, 0, 0, 0, 0, 0, 0, 0, 0, 0, 0, 0, 0, 0, 0, 0, 0, 0, 0, 0, 0, 0, 0, 0, 0, 0, 0, 0, 0, 0, 0, 0, 0, 0, 0, 0, 0, 0, 0, 0, 0, 0, 0], [zeroJ, zeroJ, zeroJ, { busy := true, op := ⟨3, ⟨#[]⟩, 0, 0⟩, serial := 3, pc := 15, k := 12, slot := 0, what := 0, e := 0, stamp := 0, old := 0, flips := 0, steps := x, code := 0, keys := [389, 0, 0, 0], raw := [modW (0 + v), 0, 0, 0, 0, 0, 0, 0, 0, 0, 0, 0] }], [[], [], [], []], l, 3, n⟩
theorem goC21 (v x n : Int) (l : List E) : doF (stC20 v x n l) 3 = stC21 v (bump x) (n + 1) l := rfl
theorem roundC17 (v x n : Int) (l : List E) : roundF (stC20 v x n l) = stC21 v (bump x) (n + 1) (l) := by
  unfold roundF
  rw [reC20_0, reC20_1, reC20_2, goC21]
theorem reC21_0 (v x n : Int) (l : List E) : doF (stC21 v x n l) 0 = stC21 v x n l := rest_F rfl rfl
theorem reC21_1 (v x n : Int) (l : List E) : doF (stC21 v x n l) 1 = stC21 v x n l := rest_F rfl rfl
theorem reC21_2 (v x n : Int) (l : List E) : doF (stC21 v x n l) 2 = stC21 v x n l := rest_F rfl rfl
def stC22 (v x n : Int) (l : List E) : S := ⟨[1, 0, 0, 389, 0, 0, 0, 0, 0, 0, 0, 0, 0, 0, 0, 0, 0, 0, 0, 0, 0, 0, 0, 0, 0, 0, 0, 0, 0, 0, 0, 0, 0, 0, 0, 0, 0, 0, 0, 0, 0, 0, 0, 0, 0, 0, 0, 0, 0, 0, 0, 0, 0, 0, 0, 0, 0, 0, 0, 0, 0, 0, 0, 0, 0, 0, 0, 0, 0, 0, 0], [zeroJ, zeroJ, zeroJ, { busy := true, op := ⟨3, ⟨#[]⟩, 0, 0⟩, serial := 3, pc := 15, k := 13, slot := 0, what := 0, e := 0, stamp := 0, old := 0, flips := 0, steps := x, code := 0, keys := [389, 0, 0, 0], raw := [modW (0 + v), 0, 0, 0, 0, 0, 0, 0, 0, 0, 0, 0, 0] }], [[], [], [], []], l, 3, n⟩
theorem goC22 (v x n : Int) (l : List E) : doF (stC21 v x n l) 3 = stC22 v (bump x) (n + 1) l := rfl
theorem roundC18 (v x n : Int) (l : List E) : roundF (stC21 v x n l) = stC22 v (bump x) (n + 1) (l) := by
  unfold roundF
  rw [reC21_0, reC21_1, reC21_2, goC22]
theorem reC22_0 (v x n : Int) (l : List E) : doF (stC22 v x n l) 0 = stC22 v x n l := rest_F rfl rfl
theorem reC22_1 (v x n : Int) (l : List E) : doF (stC22 v x n l) 1 = stC22 v x n l := rest_F rfl rfl
theorem reC22_2 (v x n : Int) (l : List E) : doF (stC22 v x n l) 2 = stC22 v x n l := rest_F rfl rfl
def stC23 (v x n : Int) (l : List E) : S := ⟨[1, 0, 0, 389, 0, 0, 0, 0, 0, 0, 0, 0, 0, 0, 0, 0, 0, 0, 0, 0, 0, 0, 0, 0, 0, 0, 0, 0, 0, 0, 0, 0, 0, 0, 0, 0, 0, 0, 0, 0, 0, 0, 0, 0, 0, 0, 0, 0, 0, 0, 0, 0, 0, 0, 0, 0, 0, 0, 0, 0, 0, 0, 0, 0, 0, 0, 0, 0, 0, 0, 0], [zeroJ, zeroJ, zeroJ, { busy := true, op := ⟨3, ⟨#[]⟩, 0, 0⟩, serial := 3, pc := 15, k := 14, slot := 0, what := 0, e := 0, stamp := 0, old := 0, flips := 0, steps := x, code := 0, keys := [389, 0, 0, 0], raw := [modW (0 + v), 0, 0, 0, 0, 0, 0, 0, 0, 0, 0, 0, 0, 0] }], [[], [], [], []], l, 3, n⟩
theorem goC23 (v x n : Int) (l : List E) : doF (stC22 v x n l) 3 = stC23 v (bump x) (n + 1) l := rfl
theorem roundC19 (v x n : Int) (l : List E) : roundF (stC22 v x n l) = stC23 v (bump x) (n + 1) (l) := by
  unfold roundF
  rw [reC22_0, reC22_1, reC22_2, goC23]
theorem reC23_0 (v x n : Int) (l : List E) : doF (stC23 v x n l) 0 = stC23 v x n l := rest_F rfl rfl
theorem reC23_1 (v x n : Int) (l : List E) : doF (stC23 v x n l) 1 = stC23 v x n l := rest_F rfl rfl
theorem reC23_2 (v x n : Int) (l : List E) : doF (stC23 v x n l) 2 = stC23 v x n l := rest_F rfl rfl
def stC24 (v x n : Int) (l : List E) : S := ⟨[1, 0, 0, 389, 0, 0, 0, 0, 0, 0, 0, 0, 0, 0, 0, 0, 0, 0, 0, 0, 0, 0, 0, 0, 0, 0, 0, 0, 0, 0, 0, 0, 0, 0, 0, 0, 0, 0, 0, 0, 0, 0, 0, 0, 0, 0, 0, 0, 0, 0, 0, 0, 0, 0, 0, 0, 0, 0, 0, 0, 0, 0, 0, 0, 0, 0, 0, 0, 0, 0, 0], [zeroJ, zeroJ, zeroJ, { busy := true, op := ⟨3, ⟨#[]⟩, 0, 0⟩, serial := 3, pc := 15, k := 15, slot := 0, what := 0, e := 0, stamp := 0, old := 0, flips := 0, steps := x, code := 0, keys := [389, 0, 0, 0], raw := [modW (0 + v), 0, 0, 0, 0, 0, 0, 0, 0, 0, 0, 0, 0, 0, 0] }], [[], [], [], []], l, 3, n⟩
theorem goC24 (v x n : Int) (l : List E) : doF (stC23 v x n l) 3 = stC24 v (bump x) (n + 1) l := rfl
theorem roundC20 (v x n : Int) (l : List E) : roundF (stC23 v x n l) = stC24 v (bump x) (n + 1) (l) := by
  unfold roundF
  rw [reC23_0, reC23_1, reC23_2, goC24]
theorem reC24_0 (v x n : Int) (l : List E) : doF (stC24 v x n l) 0 = stC24 v x n l := rest_F rfl rfl
theorem reC24_1 (v x n : Int) (l : List E) : doF (stC24 v x n l) 1 = stC24 v x n l := rest_F rfl rfl
theorem reC24_2 (v x n : Int) (l : List E) : doF (stC24 v x n l) 2 = stC24 v x n l := rest_F rfl rfl
def stC25 (v x n : Int) (l : List E) : S := ⟨[1, 0, 0, 389, 0, 0, 0, 0, 0, 0, 0, 0, 0, 0, 0, 0, 0, 0, 0, 0, 0, 0, 0, 0, 0, 0, 0, 0, 0, 0, 0, 0, 0, 0, 0, 0, 0, 0, 0, 0, 0, 0, 0, 0, 0, 0, 0, 0, 0, 0, 0, 0, 0, 0, 0, 0, 0, 0, 0, 0, 0, 0, 0, 0, 0, 0, 0, 0, 0, 0, 0], [zeroJ, zeroJ, zeroJ, { busy := true, op := ⟨3, ⟨#[]⟩, 0, 0⟩, serial := 3, pc := 15, k := 16, slot := 0, what := 0, e := 0, stamp := 0, old := 0, flips := 0, steps := x, code := 0, keys := [389, 0, 0, 0], raw := [modW (0 + v), 0, 0, 0, 0, 0, 0, 0, 0, 0, 0, 0, 0, 0, 0, 0] }], [[], [], [], []], l, 3, n⟩
theorem goC25 (v x n : Int) (l : List E) : doF (stC24 v x n l) 3 = stC25 v (bump x) (n + 1) l := rfl
theorem roundC21 (v x n : Int) (l : List E) : roundF (stC24 v x n l) = stC25 v (bump x) (n + 1) (l) := by
  unfold roundF
  rw [reC24_0, reC24_1, reC24_2, goC25]
theorem reC25_0 (v x n : Int) (l : List E) : doF (stC25 v x n l) 0 = stC25 v x n l := rest_F rfl rfl
theorem reC25_1 (v x n : Int) (l : List E) : doF (stC25 v x n l) 1 = stC25 v x n l := rest_F rfl rfl
theorem reC25_2 (v x n : Int) (l : List E) : doF (stC25 v x n l) 2 = stC25 v x n l := rest_F rfl rfl
def stC26 (v x n : Int) (l : List E) : S := ⟨[1, 0, 0, 389, 0, 0, 0, 0, 0, 0, 0, 0, 0, 0, 0, 0, 0, 0, 0, 0, 0, 0, 0, 0, 0, 0, 0, 0, 0, 0, 0, 0, 0, 0, 0, 0, 0, 0, 0, 0, 0, 0, 0, 0, 0, 0, 0, 0, 0, 0, 0, 0, 0, 0, 0, 0, 0, 0, 0, 0, 0, 0, 0, 0, 0, 0, 0, 0, 0, 0, 0], [zeroJ, zeroJ, zeroJ, { busy := true, op := ⟨3, ⟨#[]⟩, 0, 0⟩, serial := 3, pc := 15, k := 17, slot := 0, what := 0, e := 0, stamp := 0, old := 0, flips := 0, steps := x, code := 0, keys := [389, 0, 0, 0], raw := [modW (0 + v), 0, 0, 0, 0, 0, 0, 0, 0, 0, 0, 0, 0, 0, 0, 0, 0] }], [[], [], [], []], l, 3, n⟩
theorem goC26 (v x n : Int) (l : List E) : doF (stC25 v x n l) 3 = stC26 v (bump x) (n + 1) l := rfl
theorem roundC22 (v x n : Int) (l : List E) : roundF (stC25 v x n l) = stC26 v (bump x) (n + 1) (l) := by
  unfold roundF
  rw [reC25_0, reC25_1, reC25_2, goC26]
theorem reC26_0 (v x n : Int) (l : List E) : doF (stC26 v x n l) 0 = stC26 v x n l := rest_F rfl rfl
theorem reC26_1 (v x n : Int) (l : List E) : doF (stC26 v x n l) 1 = stC26 v x n l := rest_F rfl rfl
theorem reC26_2 (v x n : Int) (l : List E) : doF (stC26 v x n l) 2 = stC26 v x n l := rest_F rfl rfl
def stC27 (v x n : Int) (l : List E) : S := ⟨[1, 0, 0, 389, 0, 0, 0, 0, 0, 0, 0, 0, 0, 0, 0, 0, 0, 0, 0, 0, 0, 0, 0, 0, 0, 0, 0, 0, 0, 0, 0, 0, 0, 0, 0, 0, 0, 0, 0, 0, 0, 0, 0, 0, 0, 0, 0, 0, 0, 0, 0, 0, 0, 0, 0, 0, 0, 0, 0, 0, 0, 0, 0, 0, 0, 0, 0, 0, 0, 0, 0], [zeroJ, zeroJ, zeroJ, { busy := true, op := ⟨3, ⟨#[]⟩, 0, 0⟩, serial := 3, pc := 15, k := 18, slot := 0, what := 0, e := 0, stamp := 0, old := 0, flips := 0, steps := x, code := 0, keys := [389, 0, 0, 0], raw := [modW (0 + v), 0, 0, 0, 0, 0, 0, 0, 0, 0, 0, 0, 0, 0, 0, 0, 0, 0] }], [[], [], [], []], l, 3, n⟩
theorem goC27 (v x n : Int) (l : List E) : doF (stC26 v x n l) 3 = stC27 v (bump x) (n + 1) l := rfl
theorem roundC23 (v x n : Int) (l : List E) : roundF (stC26 v x n l) = stC27 v (bump x) (n + 1) (l) := by
  unfold roundF
  rw [reC26_0, reC26_1, reC26_2, goC27]
theorem reC27_0 (v x n : Int) (l : List E) : doF (stC27 v x n l) 0 = stC27 v x n l := rest_F rfl rfl
theorem reC27_1 (v x n : Int) (l : List E) : doF (stC27 v x n l) 1 = stC27 v x n l := rest_F rfl rfl
theorem reC27_2 (v x n : Int) (l : List E) : doF (stC27 v x n l) 2 = stC27 v x n l := rest_F rfl rfl
def stC28 (v x n : Int) (l : List E) : S := ⟨[1, 0, 0, 389, 0, 0, 0, 0, 0, 0, 0, 0, 0, 0, 0, 0, 0, 0, 0, 0, 0, 0, 0, 0, 0, 0, 0, 0, 0, 0, 0, 0, 0, 0, 0, 0, 0, 0, 0, 0, 0, 0, 0, 0, 0, 0, 0, 0, 0, 0, 0, 0, 0, 0, 0, 0, 0, 0, 0, 0, 0, 0, 0, 0, 0, 0, 0, 0, 0, 0, 0], [zeroJ, zeroJ, zeroJ, { busy := true, op := ⟨3, ⟨#[]⟩, 0, 0⟩, serial := 3, pc := 15, k := 19, slot := 0, what := 0, e := 0, stamp := 0, old := 0, flips := 0, steps := x, code := 0, keys := [389, 0, 0, 0], raw := [modW (0 + v), 0, 0, 0, 0, 0, 0, 0, 0, 0, 0, 0, 0, 0, 0, 0, 0, 0, 0] }], [[], [], [], []], l, 3, n⟩
theorem goC28 (v x n : Int) (l : List E) : doF (stC27 v x n l) 3 = stC28 v (bump x) (n + 1) l := rfl
theorem roundC24 (v x n : Int) (l : List E) : roundF (stC27 v x n l) = stC28 v (bump x) (n + 1) (l) := by
  unfold roundF
  rw [reC27_0, reC27_1, reC27_2, goC28]
theorem reC28_0 (v x n : Int) (l : List E) : doF (stC28 v x n l) 0 = stC28 v x n l := rest_F rfl rfl
theorem reC28_1 (v x n : Int) (l : List E) : doF (stC28 v x n l) 1 = stC28 v x n l := rest_F rfl rfl
theorem reC28_2 (v x n : Int) (l : List E) : doF (stC28 v x n l) 2 = stC28 v x n l := rest_F rfl rfl
def stC29 (v x n : Int) (l : List E) : S := ⟨[1, 0, 0, 389, 0, 0, 0, 0, 0, 0, 0, 0, 0, 0, 0, 0, 0, 0, 0, 0, 0, 0, 0, 0, 0, 0, 0, 0, 0, 0, 0, 0, 0, 0, 0, 0, 0, 0, 0, 0, 0, 0, 0, 0, 0, 0, 0, 0, 0, 0, 0, 0, 0, 0, 0, 0, 0, 0, 0, 0, 0, 0, 0, 0, 0, 0, 0, 0, 0, 0, 0], [zeroJ, zeroJ, zeroJ, { busy := true, op := ⟨3, ⟨#[]⟩, 0, 0⟩, serial := 3, pc := 15, k := 20, slot := 0, what := 0, e := 0, stamp := 0, old := 0, flips := 0, steps := x, code := 0, keys := [389, 0, 0, 0], raw := [modW (0 + v), 0, 0, 0, 0, 0, 0, 0, 0, 0, 0, 0, 0, 0, 0, 0, 0, 0, 0, 0] }], [[], [], [], []], l, 3, n⟩
theorem goC29 (v x n : Int) (l : List E) : doF (stC28 v x n l) 3 = stC29 v (bump x) (n + 1) l := rfl
theorem roundC25 (v x n : Int) (l : List E) : roundF (stC28 v x n l) = stC29 v (bump x) (n + 1) (l) := by
  unfold roundF
  rw [reC28_0, reC28_1, reC28_2, goC29]
theorem reC29_0 (v x n : Int) (l : List E) : doF (stC29 v x n l) 0 = stC29 v x n l := rest_F rfl rfl
theorem reC29_1 (v x n : Int) (l : List E) : doF (stC29 v x n l) 1 = stC29 v x n l := rest_F rfl rfl
theorem reC29_2 (v x n : Int) (l : List E) : doF (stC29 v x n l) 2 = stC29 v x n l := rest_F rfl rfl
def stC30 (v x n : Int) (l : List E) : S := ⟨[1, 0, 0, 389, 0, 0, 0, 0, 0, 0, 0, 0, 0, 0, 0, 0, 0, 0, 0, 0, 0, 0, 0, 0, 0, 0, 0, 0, 0, 0, 0, 0, 0, 0, 0, 0, 0, 0, 0, 0, 0, 0, 0, 0, 0, 0, 0, 0, 0, 0, 0, 0, 0, 0, 0, 0, 0, 0, 0, 0, 0, 0, 0, 0, 0, 0, 0, 0, 0, 0, 0], [zeroJ, zeroJ, zeroJ, { busy := true, op := ⟨3, ⟨#[]⟩, 0, 0⟩, serial := 3, pc := 15, k := 21, slot := 0, what := 0, e := 0, stamp := 0, old := 0, flips := 0, steps := x, code := 0, keys := [389, 0, 0, 0], raw := [modW (0 + v), 0, 0, 0, 0, 0, 0, 0, 0, 0, 0, 0, 0, 0, 0, 0, 0, 0, 0, 0, 0] }], [[], [], [], []], l, 3, n⟩
theorem goC30 (v x n : Int) (l : List E) : doF (stC29 v x n l) 3 = stC30 v (bump x) (n + 1) l := rfl
theorem roundC26 (v x n : Int) (l : List E) : roundF (stC29 v x n l) = stC30 v (bump x) (n + 1) (l) := by
  unfold roundF
  rw [reC29_0, reC29_1, reC29_2, goC30]
theorem reC30_0 (v x n : Int) (l : List E) : doF (stC30 v x n l) 0 = stC30 v x n l := rest_F rfl rfl
theorem reC30_1 (v x n : Int) (l : List E) : doF (stC30 v x n l) 1 = stC30 v x n l := rest_F rfl rfl
theorem reC30_2 (v x n : Int) (l : List E) : doF (stC30 v x n l) 2 = stC30 v x n l := rest_F rfl rfl
def stC31 (v x n : Int) (l : List E) : S := ⟨[1, 0, 0, 389, 0, 0, 0, 0, 0, 0, 0, 0, 0, 0, 0, 0, 0, 0, 0, 0, 0, 0, 0, 0, 0, 0, 0, 0, 0, 0, 0, 0, 0, 0, 0, 0, 0, 0, 0, 0, 0, 0, 0, 0, 0, 0, 0, 0, 0, 0, 0, 0, 0, 0, 0, 0, 0, 0, 0, 0, 0, 0, 0, 0, 0, 0, 0, 0, 0, 0, 0], [zeroJ, zeroJ, zeroJ, { busy := true, op := ⟨3, ⟨#[]⟩, 0, 0⟩, serial := 3, pc := 15, k := 22, slot := 0, what := 0, e := 0, stamp := 0, old := 0, flips := 0, steps := x, code := 0, keys := [389, 0, 0, 0], raw := [modW (0 + v), 0, 0, 0, 0, 0, 0, 0, 0, 0, 0, 0, 0, 0, 0, 0, 0, 0, 0, 0, 0, 0] }], [[], [], [], []], l, 3, n⟩
theorem goC31 (v x n : Int) (l : List E) : doF (stC30 v x n l) 3 = stC31 v (bump x) (n + 1) l := rfl
theorem roundC27 (v x n : Int) (l : List E) : roundF (stC30 v x n l) = stC31 v (bump x) (n + 1) (l) := by
  unfold roundF
  rw [reC30_0, reC30_1, reC30_2, goC31]
theorem reC31_0 (v x n : Int) (l : List E) : doF (stC31 v x n l) 0 = stC31 v x n l := rest_F rfl rfl
theorem reC31_1 (v x n : Int) (l : List E) : doF (stC31 v x n l) 1 = stC31 v x n l := rest_F rfl rfl
theorem reC31_2 (v x n : Int) (l : List E) : doF (stC31 v x n l) 2 = stC31 v x n l := rest_F rfl rfl
def stC32 (v x n : Int) (l : List E) : S := ⟨[1, 0, 0, 389, 0, 0, 0, 0, 0, 0, 0, 0, 0, 0, 0, 0, 0, 0, 0, 0, 0, 0, 0, 0, 0, 0, 0, 0, 0, 0, 0, 0, 0, 0, 0, 0, 0, 0, 0, 0, 0, 0, 0, 0, 0, 0, 0, 0, 0, 0, 0, 0, 0, 0, 0, 0, 0, 0, 0, 0, 0, 0, 0, 0, 0, 0, 0, 0, 0, 0, 0], [zeroJ, zeroJ, zeroJ, { busy := true, op := ⟨3, ⟨#[]⟩, 0, 0⟩, serial := 3, pc := 15, k := 23, slot := 0, what := 0, e := 0, stamp := 0, old := 0, flips := 0, steps := x, code := 0, keys := [389, 0, 0, 0], raw := [modW (0 + v), 0, 0, 0, 0, 0, 0, 0, 0, 0, 0, 0, 0, 0, 0, 0, 0, 0, 0, 0, 0, 0, 0] }], [[], [], [], []], l, 3, n⟩
theorem goC32 (v x n : Int) (l : List E) : doF (stC31 v x n l) 3 = stC32 v (bump x) (n + 1) l := rfl
theorem roundC28 (v x n : Int) (l : List E) : roundF (stC31 v x n l) = stC32 v (bump x) (n + 1) (l) := by
  unfold roundF
  rw [reC31_0, reC31_1, reC31_2, goC32]
theorem reC32_0 (v x n : Int) (l : List E) : doF (stC32 v x n l) 0 = stC32 v x n l := rest_F rfl rfl
theorem reC32_1 (v x n : Int) (l : List E) : doF (stC32 v x n l) 1 = stC32 v x n l := rest_F rfl rfl
theorem reC32_2 (v x n : Int) (l : List E) : doF (stC32 v x n l) 2 = stC32 v x n l := rest_F rfl rfl
def stC33 (v x n : Int) (l : List E) : S := ⟨[1, 0, 0, 389, 0, 0, 0, 0, 0, 0, 0, 0, 0, 0, 0, 0, 0, 0, 0, 0, 0, 0, 0, 0, 0, 0, 0, 0, 0, 0, 0, 0, 0, 0, 0, 0, 0, 0, 0, 0, 0, 0, 0, 0, 0, 0, 0, 0, 0, 0, 0, 0, 0, 0, 0, 0, 0, 0, 0, 0, 0, 0, 0, 0, 0, 0, 0, 0, 0, 0, 0], [zeroJ, zeroJ, zeroJ, { busy := true, op := ⟨3, ⟨#[]⟩, 0, 0⟩, serial := 3, pc := 15, k := 24, slot := 0, what := 0, e := 0, stamp := 0, old := 0, flips := 0, steps := x, code := 0, keys := [389, 0, 0, 0], raw := [modW (0 + v), 0, 0, 0, 0, 0, 0, 0, 0, 0, 0, 0, 0, 0, 0, 0, 0, 0, 0, 0, 0, 0, 0, 0] }], [[], [], [], []], l, 3, n⟩
theorem goC33 (v x n : Int) (l : List E) : doF (stC32 v x n l) 3 = stC33 v (bump x) (n + 1) l := rfl
theorem roundC29 (v x n : Int) (l : List E) : roundF (stC32 v x n l) = stC33 v (bump x) (n + 1) (l) := by
  unfold roundF
  rw [reC32_0, reC32_1, reC32_2, goC33]
theorem reC33_0 (v x n : Int) (l : List E) : doF (stC33 v x n l) 0 = stC33 v x n l := rest_F rfl rfl
theorem reC33_1 (v x n : Int) (l : List E) : doF (stC33 v x n l) 1 = stC33 v x n l := rest_F rfl rfl
theorem reC33_2 (v x n : Int) (l : List E) : doF (stC33 v x n l) 2 = stC33 v x n l := rest_F rfl rfl
def stC34 (v x n : Int) (l : List E) : S := ⟨[1, 0, 0, 389, 0, 0, 0, 0, 0, 0, 0, 0, 0, 0, 0, 0, 0, 0, 0, 0, 0, 0, 0, 0, 0, 0, 0, 0, 0, 0, 0, 0, 0, 0, 0, 0, 0, 0, 0, 0, 0, 0, 0, 0, 0, 0, 0, 0, 0, 0, 0, 0, 0, 0, 0, 0, 0, 0, 0, 0, 0, 0, 0, 0, 0, 0, 0, 0, 0, 0, 0], [zeroJ, zeroJ, zeroJ, { busy := true, op := ⟨3, ⟨#[]⟩, 0, 0⟩, serial := 3, pc := 15, k := 25, slot := 0, what := 0, e := 0, stamp := 0, old := 0, flips := 0, steps := x, code := 0, keys := [389, 0, 0, 0], raw := [modW (0 + v), 0, 0, 0, 0, 0, 0, 0, 0, 0, 0, 0, 0, 0, 0, 0, 0, 0, 0, 0, 0, 0, 0, 0, 0] }], [[], [], [], []], l, 3, n⟩
theorem goC34 (v x n : Int) (l : List E) : doF (stC33 v x n l) 3 = stC34 v (bump x) (n + 1) l := rfl
theorem roundC30 (v x n : Int) (l : List E) : roundF (stC33 v x n l) = stC34 v (bump x) (n + 1) (l) := by
  unfold roundF
  rw [reC33_0, reC33_1, reC33_2, goC34]
theorem reC34_0 (v x n : Int) (l : List E) : doF (stC34 v x n l) 0 = stC34 v x n l := rest_F rfl rfl
theorem reC34_1 (v x n : Int) (l : List E) : doF (stC34 v x n l) 1 = stC34 v x n l := rest_F rfl rfl
theorem reC34_2 (v x n : Int) (l : List E) : doF (stC34 v x n l) 2 = stC34 v x n l := rest_F rfl rfl
def stC35 (v x n : Int) (l : List E) : S := ⟨[1, 0, 0, 389, 0, 0, 0, 0, 0, 0, 0, 0, 0, 0, 0, 0, 0, 0, 0, 0, 0, 0, 0, 0, 0, 0, 0, 0, 0, 0, 0, 0, 0, 0, 0, 0, 0, 0, 0, 0, 0, 0, 0, 0, 0, 0, 0, 0, 0, 0, 0, 0, 0, 0, 0, 0, 0, 0, 0, 0, 0, 0, 0, 0, 0, 0, 0, 0, 0, 0, 0], [zeroJ, zeroJ, zeroJ, { busy := true, op := ⟨3, ⟨#[]⟩, 0, 0⟩, serial := 3, pc := 15, k := 26, slot := 0, what := 0, e := 0, stamp := 0, old := 0, flips := 0, steps := x, code := 0, keys := [389, 0, 0, 0], raw := [modW (0 + v), 0, 0, 0, 0, 0, 0, 0, 0, 0, 0, 0, 0, 0, 0, 0, 0, 0, 0, 0, 0, 0, 0, 0, 0, 0] }], [[], [], [], []], l, 3, n⟩
theorem goC35 (v x n : Int) (l : List E) : doF (stC34 v x n l) 3 = stC35 v (bump x) (n + 1) l := rfl
theorem roundC31 (v x n : Int) (l : List E) : roundF (stC34 v x n l) = stC35 v (bump x) (n + 1) (l) := by
  unfold roundF
  rw [reC34_0, reC34_1, reC34_2, goC35]
theorem reC35_0 (v x n : Int) (l : List E) : doF (stC35 v x n l) 0 = stC35 v x n l := rest_F rfl rfl
theorem reC35_1 (v x n : Int) (l : List E) : doF (stC35 v x n l) 1 = stC35 v x n l := rest_F rfl rfl
theorem reC35_2 (v x n : Int) (l : List E) : doF (stC35 v x n l) 2 = stC35 v x n l := rest_F rfl rfl
def stC36 (v x n : Int) (l : List E) : S := ⟨[1, 0, 0, 389, 0, 0, 0, 0, 0, 0, 0, 0, 0, 0, 0, 0, 0, 0, 0, 0, 0, 0, 0, 0, 0, 0, 0, 0, 0, 0, 0, 0, 0, 0, 0, 0, 0, 0, 0, 0, 0, 0, 0, 0, 0, 0, 0, 0, 0, 0, 0, 0, 0, 0, 0, 0, 0, 0, 0, 0, 0, 0, 0, 0, 0, 0, 0, 0, 0, 0, 0], [zeroJ, zeroJ, zeroJ, { busy := true, op := ⟨3, ⟨#[]⟩, 0, 0⟩, serial := 3, pc := 15, k := 27, slot := 0, what := 0, e := 0, stamp := 0, old := 0, flips := 0, steps := x, code := 0, keys := [389, 0, 0, 0], raw := [modW (0 + v), 0, 0, 0, 0, 0, 0, 0, 0, 0, 0, 0, 0, 0, 0, 0, 0, 0, 0, 0, 0, 0, 0, 0, 0, 0, 0] }], [[], [], [], []], l, 3, n⟩
theorem goC36 (v x n : Int) (l : List E) : doF (stC35 v x n l) 3 = stC36 v (bump x) (n + 1) l := rfl
theorem roundC32 (v x n : Int) (l : List E) : roundF (stC35 v x n l) = stC36 v (bump x) (n + 1) (l) := by
  unfold roundF
  rw [reC35_0, reC35_1, reC35_2, goC36]
theorem reC36_0 (v x n : Int) (l : List E) : doF (stC36 v x n l) 0 = stC36 v x n l := rest_F rfl rfl
theorem reC36_1 (v x n : Int) (l : List E) : doF (stC36 v x n l) 1 = stC36 v x n l := rest_F rfl rfl
theorem reC36_2 (v x n : Int) (l : List E) : doF (stC36 v x n l) 2 = stC36 v x n l := rest_F rfl rfl
def stC37 (v x n : Int) (l : List E) : S := ⟨[1, 0, 0, 389, 0, 0, 0, 0, 0, 0, 0, 0, 0, 0, 0, 0, 0, 0, 0, 0, 0, 0, 0, 0, 0, 0, 0, 0, 0, 0, 0, 0, 0, 0, 0, 0, 0, 0, 0, 0, 0, 0, 0, 0, 0, 0, 0, 0, 0, 0, 0, 0, 0, 0, 0, 0, 0, 0, 0, 0, 0, 0, 0, 0, 0, 0, 0, 0, 0, 0, 0], [zeroJ, zeroJ, zeroJ, { busy := true, op := ⟨3, ⟨#[]⟩, 0, 0⟩, serial := 3, pc := 15, k := 28, slot := 0, what := 0, e := 0, stamp := 0, old := 0, flips := 0, steps := x, code := 0, keys := [389, 0, 0, 0], raw := [modW (0 + v), 0, 0, 0, 0, 0, 0, 0, 0, 0, 0, 0, 0, 0, 0, 0, 0, 0, 0, 0, 0, 0, 0, 0, 0, 0, 0, 0] }], [[], [], [], []], l, 3, n⟩
theorem goC37 (v x n : Int) (l : List E) : doF (stC36 v x n l) 3 = stC37 v (bump x) (n + 1) l := rfl
theorem roundC33 (v x n : Int) (l : List E) : roundF (stC36 v x n l) = stC37 v (bump x) (n + 1) (l) := by
  unfold roundF
  rw [reC36_0, reC36_1, reC36_2, goC37]
theorem reC37_0 (v x n : Int) (l : List E) : doF (stC37 v x n l) 0 = stC37 v x n l := rest_F rfl rfl
theorem reC37_1 (v x n : Int) (l : List E) : doF (stC37 v x n l) 1 = stC37 v x n l := rest_F rfl rfl
theorem reC37_2 (v x n : Int) (l : List E) : doF (stC37 v x n l) 2 = stC37 v x n l := rest_F rfl rfl
def stC38 (v x n : Int) (l : List E) : S := ⟨[1, 0, 0, 389, 0, 0, 0, 0, 0, 0, 0, 0, 0, 0, 0, 0, 0, 0, 0, 0, 0, 0, 0, 0, 0, 0, 0, 0, 0, 0, 0, 0, 0, 0, 0, 0, 0, 0, 0, 0, 0, 0, 0, 0, 0, 0, 0, 0, 0, 0, 0, 0, 0, 0, 0, 0, 0, 0, 0, 0, 0, 0, 0, 0, 0, 0, 0, 0, 0, 0, 0], [zeroJ, zeroJ, zeroJ, { busy := true, op := ⟨3, ⟨#[]⟩, 0, 0⟩, serial := 3, pc := 15, k := 29, slot := 0, what := 0, e := 0, stamp := 0, old := 0, flips := 0, steps := x, code := 0, keys := [389, 0, 0, 0], raw := [modW (0 + v), 0, 0, 0, 0, 0, 0, 0, 0, 0, 0, 0, 0, 0, 0, 0, 0, 0, 0, 0, 0, 0, 0, 0, 0, 0, 0, 0, 0] }], [[], [], [], []], l, 3, n⟩
theorem goC38 (v x n : Int) (l : List E) : doF (stC37 v x n l) 3 = stC38 v (bump x) (n + 1) l := rfl
theorem roundC34 (v x n : Int) (l : List E) : roundF (stC37 v x n l) = stC38 v (bump x) (n + 1) (l) := by
  unfold roundF
  rw [reC37_0, reC37_1, reC37_2, goC38]
theorem reC38_0 (v x n : Int) (l : List E) : doF (stC38 v x n l) 0 = stC38 v x n l := rest_F rfl rfl
theorem reC38_1 (v x n : Int) (l : List E) : doF (stC38 v x n l) 1 = stC38 v x n l := rest_F rfl rfl
theorem reC38_2 (v x n : Int) (l : List E) : doF (stC38 v x n l) 2 = stC38 v x n l := rest_F rfl rfl
def stC39 (v x n : Int) (l : List E) : S := ⟨[1, 0, 0, 389, 0, 0, 0, 0, 0, 0, 0, 0, 0, 0, 0, 0, 0, 0, 0, 0, 0, 0, 0, 0, 0, 0, 0, 0, 0, 0, 0, 0, 0, 0, 0, 0, 0, 0, 0, 0, 0, 0, 0, 0, 0, 0, 0, 0, 0, 0, 0, 0, 0, 0, 0, 0, 0, 0, 0, 0, 0, 0, 0, 0, 0, 0, 0, 0, 0, 0, 0], [zeroJ, zeroJ, zeroJ, { busy := true, op := ⟨3, ⟨#[]⟩, 0, 0⟩, serial := 3, pc := 15, k := 30, slot := 0, what := 0, e := 0, stamp := 0, old := 0, flips := 0, steps := x, code := 0, keys := [389, 0, 0, 0], raw := [modW (0 + v), 0, 0, 0, 0, 0, 0, 0, 0, 0, 0, 0, 0, 0, 0, 0, 0, 0, 0, 0, 0, 0, 0, 0, 0, 0, 0, 0, 0, 0] }], [[], [], [], []], l, 3, n⟩
theorem goC39 (v x n : Int) (l : List E) : doF (stC38 v x n l) 3 = stC39 v (bump x) (n + 1) l := rfl
theorem roundC35 (v x n : Int) (l : List E) : roundF (stC38 v x n l) = stC39 v (bump x) (n + 1) (l) := by
  unfold roundF
  rw [reC38_0, reC38_1, reC38_2, goC39]
theorem reC39_0 (v x n : Int) (l : List E) : doF (stC39 v x n l) 0 = stC39 v x n l := rest_F rfl rfl
theorem reC39_1 (v x n : Int) (l : List E) : doF (stC39 v x n l) 1 = stC39 v x n l := rest_F rfl rfl
theorem reC39_2 (v x n : Int) (l : List E) : doF (stC39 v x n l) 2 = stC39 v x n l := rest_F rfl rfl
def stC40 (v x n : Int) (l : List E) : S := ⟨[1, 0, 0, 389, 0, 0, 0, 0, 0, 0, 0, 0, 0, 0, 0, 0, 0, 0, 0, 0, 0, 0, 0, 0, 0, 0, 0, 0, 0, 0, 0, 0, 0, 0, 0, 0, 0, 0, 0, 0, 0, 0, 0, 0, 0, 0, 0, 0, 0, 0, 0, 0, 0, 0, 0, 0, 0, 0, 0, 0, 0, 0, 0, 0, 0, 0, 0, 0, 0, 0, 0], [zeroJ, zeroJ, zeroJ, { busy := true, op := ⟨3, ⟨#[]⟩, 0, 0⟩, serial := 3, pc := 15, k := 31, slot := 0, what := 0, e := 0, stamp := 0, old := 0, flips := 0, steps := x, code := 0, keys := [389, 0, 0, 0], raw := [modW (0 + v), 0, 0, 0, 0, 0, 0, 0, 0, 0, 0, 0, 0, 0, 0, 0, 0, 0, 0, 0, 0, 0, 0, 0, 0, 0, 0, 0, 0, 0, 0] }], [[], [], [], []], l, 3, n⟩
theorem goC40 (v x n : Int) (l : List E) : doF (stC39 v x n l) 3 = stC40 v (bump x) (n + 1) l := rfl
theorem roundC36 (v x n : Int) (l : List E) : roundF (stC39 v x n l) = stC40 v (bump x) (n + 1) (l) := by
  unfold roundF
  rw [reC39_0, reC39_1, reC39_2, goC40]
theorem reC40_0 (v x n : Int) (l : List E) : doF (stC40 v x n l) 0 = stC40 v x n l := rest_F rfl rfl
theorem reC40_1 (v x n : Int) (l : List E) : doF (stC40 v x n l) 1 = stC40 v x n l := rest_F rfl rfl
theorem reC40_2 (v x n : Int) (l : List E) : doF (stC40 v x n l) 2 = stC40 v x n l := rest_F rfl rfl
def stC41 (v x n : Int) (l : List E) : S := ⟨[1, 0, 0, 389, 0, 0, 0, 0, 0, 0, 0, 0, 0, 0, 0, 0, 0, 0, 0, 0, 0, 0, 0, 0, 0, 0, 0, 0, 0, 0, 0, 0, 0, 0, 0, 0, 0, 0, 0, 0, 0, 0, 0, 0, 0, 0, 0, 0, 0, 0, 0, 0, 0, 0, 0, 0, 0, 0, 0, 0, 0, 0, 0, 0, 0, 0, 0, 0, 0, 0, 0], [zeroJ, zeroJ, zeroJ, { busy := true, op := ⟨3, ⟨#[]⟩, 0, 0⟩, serial := 3, pc := 11, k := 32, slot := 0, what := 0, e := 0, stamp := 0, old := 0, flips := 0, steps := x, code := 0, keys := [389, 0, 0, 0], raw := [modW (0 + v), 0, 0, 0, 0, 0, 0, 0, 0, 0, 0, 0, 0, 0, 0, 0, 0, 0, 0, 0, 0, 0, 0, 0, 0, 0, 0, 0, 0, 0, 0, 0] }], [[], [], [], []], l, 3, n⟩
theorem goC41 (v x n : Int) (l : List E) : doF (stC40 v x n l) 3 = stC41 v (bump x) (n + 1) l := rfl
theorem roundC37 (v x n : Int) (l : List E) : roundF (stC40 v x n l) = stC41 v (bump x) (n + 1) (l) := by
  unfold roundF
  rw [reC40_0, reC40_1, reC40_2, goC41]
theorem reC41_0 (v x n : Int) (l : List E) : doF (stC41 v x n l) 0 = stC41 v x n l := rest_F rfl rfl
theorem reC41_1 (v x n : Int) (l : List E) : doF (stC41 v x n l) 1 = stC41 v x n l := rest_F rfl rfl
theorem reC41_2 (v x n : Int) (l : List E) : doF (stC41 v x n l) 2 = stC41 v x n l := rest_F rfl rfl
def jobC (v x : Int) : J := { busy := true, op := ⟨3, ⟨#[]⟩, 0, 0⟩, serial := 3, pc := 11, k := 32, slot := 0, what := 0, e := 0, stamp := 0, old := 0, flips := 0, steps := x, code := 0, keys := [389, 0, 0, 0], raw := [modW (0 + v), 0, 0, 0, 0, 0, 0, 0, 0, 0, 0, 0, 0, 0, 0, 0, 0, 0, 0, 0, 0, 0, 0, 0, 0, 0, 0, 0, 0, 0, 0, 0] }
def stC42 (v x n : Int) (l : List E) : S := ⟨[1, 0, 0, 389, 0, 0, 0, 0, 0, 0, 0, 0, 0, 0, 0, 0, 0, 0, 0, 0, 0, 0, 0, 0, 0, 0, 0, 0, 0, 0, 0, 0, 0, 0, 0, 0, 0, 0, 0, 0, 0, 0, 0, 0, 0, 0, 0, 0, 0, 0, 0, 0, 0, 0, 0, 0, 0, 0, 0, 0, 0, 0, 0, 0, 0, 0, 0, 0, 0, 0, 0], [zeroJ, zeroJ, zeroJ, zeroJ], [[], [], [], []], l, 3, n⟩
theorem goC42 (v x n : Int) (l : List E) : doF (stC41 v x n l) 3 = stC42 v (bump x) (n + 1) (l ++ [⟨3, 3, 3, n + 1, ⟨3, ⟨#[]⟩, 0, 0⟩, 0, -1, bump x, 0, rowsV { jobC v x with steps := bump x }⟩]) := rfl
theorem roundC38 (v x n : Int) (l : List E) : roundF (stC41 v x n l) = stC42 v (bump x) (n + 1) (l ++ [⟨3, 3, 3, n + 1, ⟨3, ⟨#[]⟩, 0, 0⟩, 0, -1, bump x, 0, rowsV { jobC v x with steps := bump x }⟩]) := by
  unfold roundF
  rw [reC41_0, reC41_1, reC41_2, goC42]
theorem reC42_0 (v x n : Int) (l : List E) : doF (stC42 v x n l) 0 = stC42 v x n l := rest_F rfl rfl
theorem reC42_1 (v x n : Int) (l : List E) : doF (stC42 v x n l) 1 = stC42 v x n l := rest_F rfl rfl
theorem reC42_2 (v x n : Int) (l : List E) : doF (stC42 v x n l) 2 = stC42 v x n l := rest_F rfl rfl
theorem reC42_3 (v x n : Int) (l : List E) : doF (stC42 v x n l) 3 = stC42 v x n l := rest_F rfl rfl
theorem idleC (v x n : Int) (l : List E) : roundF (stC42 v x n l) = stC42 v x n l := by
  unfold roundF
  rw [reC42_0, reC42_1, reC42_2, reC42_3]
def logB (v : Int) : List E := [] ++ [⟨1, 0, 1, 1, ⟨1, ⟨#[97]⟩, 1, 0⟩, 0, -1, 0, 0, []⟩] ++ [⟨2, 0, 1, 3, ⟨1, ⟨#[97]⟩, 1, 0⟩, 0, -1, 0, 0, []⟩] ++ [⟨3, 0, 1, 4, ⟨1, ⟨#[97]⟩, 1, 0⟩, 0, -1, 3, 0, []⟩] ++ [⟨1, 0, 2, 5, ⟨2, ⟨#[97]⟩, 0, v⟩, 0, -1, 0, 0, []⟩] ++ [⟨1, 3, 3, 10, ⟨3, ⟨#[]⟩, 0, 0⟩, 0, -1, 0, 0, []⟩] ++ [⟨2, 3, 3, 11, ⟨3, ⟨#[]⟩, 0, 0⟩, 0, 0, 0, 0, []⟩]
theorem allC (v x n : Int) (l : List E) : ∃ X N e1 e2 e3 z, iterF 1000 (stC0 v x n l) = stC42 v X N (l ++ [e1] ++ [e2] ++ [e3]) ∧ (e1.kind = 2 ∧ e1.rows = []) ∧ (e2.kind = 3 ∧ e2.op.kind = 2 ∧ e2.rows = []) ∧ (e3.kind = 3 ∧ e3.op.kind = 3 ∧ e3.rows = rowsV { jobC v z with steps := bump z }) := by
  have h : iterF 1000 (stC0 v x n l) = iterF 961 (iterF 39 (stC0 v x n l)) := iter_add 39 961 _
  rw [show ∀ s, iterF 39 s = iterF 38 (roundF s) from fun _ => rfl, roundC0] at h
  rw [show ∀ s, iterF 38 s = iterF 37 (roundF s) from fun _ => rfl, roundC1] at h
  rw [show ∀ s, iterF 37 s = iterF 36 (roundF s) from fun _ => rfl, roundC2] at h
  rw [show ∀ s, iterF 36 s = iterF 35 (roundF s) from fun _ => rfl, roundC3] at h
  rw [show ∀ s, iterF 35 s = iterF 34 (roundF s) from fun _ => rfl, roundC4] at h
  rw [show ∀ s, iterF 34 s = iterF 33 (roundF s) from fun _ => rfl, roundC5] at h
  rw [show ∀ s, iterF 33 s = iterF 32 (roundF s) from fun _ => rfl, roundC6] at h
  rw [show ∀ s, iterF 32 s = iterF 31 (roundF s) from fun _ => rfl, roundC7] at h
  rw [show ∀ s, iterF 31 s = iterF 30 (roundF s) from fun _ => rfl, roundC8] at h
  rw [show ∀ s, iterF 30 s = iterF 29 (roundF s) from fun _ => rfl, roundC9] at h
  rw [show ∀ s, iterF 29 s = iterF 28 (roundF s) from fun _ => rfl, roundC10] at h
  rw [show ∀ s, iterF 28 s = iterF 27 (roundF s) from fun _ => rfl, roundC11] at h
  rw [show ∀ s, iterF 27 s = iterF 26 (roundF s) from fun _ => rfl, roundC12] at h
  rw [show ∀ s, iterF 26 s = iterF 25 (roundF s) from fun _ => rfl, roundC13] at h
  rw [show ∀ s, iterF 25 s = iterF 24 (roundF s) from fun _ => rfl, roundC14] at h
  rw [show ∀ s, iterF 24 s = iterF 23 (roundF s) from fun _ => rfl, roundC15] at h
  rw [show ∀ s, iterF 23 s = iterF 22 (roundF s) from fun _ => rfl, roundC16] at h
  rw [show ∀ s, iterF 22 s = iterF 21 (roundF s) from fun _ => rfl, roundC17] at h
  rw [show ∀ s, iterF 21 s = iterF 20 (roundF s) from fun _ => rfl, roundC18] at h
  rw [show ∀ s, iterF 20 s = iterF 19 (roundF s) from fun _ => rfl, roundC19] at h
  rw [show ∀ s, iterF 19 s = iterF 18 (roundF s) from fun _ => rfl, roundC20] at h
  rw [show ∀ s, iterF 18 s = iterF 17 (roundF s) from fun _ => rfl, roundC21] at h
  rw [show ∀ s, iterF 17 s = iterF 16 (roundF s) from fun _ => rfl, roundC22] at h
  rw [show ∀ s, iterF 16 s = iterF 15 (roundF s) from fun _ => rfl, roundC23] at h
  rw [show ∀ s, iterF 15 s = iterF 14 (roundF s) from fun _ => rfl, roundC24] at h
  rw [show ∀ s, iterF 14 s = iterF 13 (roundF s) from fun _ => rfl, roundC25] at h
  rw [show ∀ s, iterF 13 s = iterF 12 (roundF s) from fun _ => rfl, roundC26] at h
  rw [show ∀ s, iterF 12 s = iterF 11 (roundF s) from fun _ => rfl, roundC27] at h
  rw [show ∀ s, iterF 11 s = iterF 10 (roundF s) from fun _ => rfl, roundC28] at h
  rw [show ∀ s, iterF 10 s = iterF 9 (roundF s) from fun _ => rfl, roundC29] at h
  rw [show ∀ s, iterF 9 s = iterF 8 (roundF s) from fun _ => rfl, roundC30] at h
  rw [show ∀ s, iterF 8 s = iterF 7 (roundF s) from fun _ => rfl, roundC31] at h
  rw [show ∀ s, iterF 7 s = iterF 6 (roundF s) from fun _ => rfl, roundC32] at h
  rw [show ∀ s, iterF 6 s = iterF 5 (roundF s) from fun _ => rfl, roundC33] at h
  rw [show ∀ s, iterF 5 s = iterF 4 (roundF s) from fun _ => rfl, roundC34] at h
  rw [show ∀ s, iterF 4 s = iterF 3 (roundF s) from fun _ => rfl, roundC35] at h
  rw [show ∀ s, iterF 3 s = iterF 2 (roundF s) from fun _ => rfl, roundC36] at h
  rw [show ∀ s, iterF 2 s = iterF 1 (roundF s) from fun _ => rfl, roundC37] at h
  rw [show ∀ s, iterF 1 s = iterF 0 (roundF s) from fun _ => rfl, roundC38] at h
  rw [show ∀ s, iterF 0 s = s from fun _ => rfl, iter_fix (idleC _ _ _ _)] at h
  exact ⟨_, _, _, _, _, _, h, ⟨rfl, rfl⟩, ⟨rfl, rfl, rfl⟩, ⟨rfl, rfl, rfl⟩⟩
end Go.Proofs.YtnlepnfdgdbkoaaGreatDoor
