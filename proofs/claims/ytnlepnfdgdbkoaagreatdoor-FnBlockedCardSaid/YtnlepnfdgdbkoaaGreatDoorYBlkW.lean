/-
  Texts of this seat, laid together.
-/
import Derived.Test.YtnlepnfdgdbkoaaGreatDoorYZc
import Derived.Test.YtnlepnfdgdbkoaaGreatDoorYMdh
import Derived.Test.YtnlepnfdgdbkoaaGreatDoorYBlkV
import Derived.Test.YtnlepnfdgdbkoaaGreatDoorYMbd
namespace Go.Proofs.YtnlepnfdgdbkoaaGreatDoor
open Go.RowKit M
set_option linter.unusedVariables false
set_option linter.unusedSimpArgs false
structure Tiny (s : S) : Prop where
  small : SmallS s
  fit : s.Fit
  ok : worldOkV s = true
theorem getD_of {α : Type} {l : List α} {z : α} {P : α → Prop} (h : ∀ x ∈ l, P x) (j : Nat) (hj : j < l.length) : P (l.getD j z) := by
  rw [List.getD_eq_getElem?_getD, List.getElem?_eq_getElem hj]
  exact h _ (List.getElem_mem _)
theorem small15 (s : S) (hc : s.cells.length = 71) (hj : s.jobs.length = 4) (hjk : ∀ x ∈ s.jobs, x.keys = [] ∧ x.raw = []) (ht : s.todo.length = 4) (htk : ∀ q ∈ s.todo, q.length ≤ 2) (hl : s.log.length ≤ 10) (hlk : ∀ e ∈ s.log, e.rows = []) : SmallS s :=
  ⟨by omega, by omega, fun j hj2 => by have h := getD_of (z := zeroJ) hjk j hj2; rw [h.1, h.2]; exact ⟨Nat.zero_le _, Nat.zero_le _⟩, by omega, fun j hj2 => by have h := getD_of (z := ([] : List O)) htk j hj2; omega, by omega, fun j hj2 => by have h := getD_of (z := zeroE) hlk j hj2; rw [h]; exact Nat.zero_le _⟩
theorem small16 (s : S) (hc : s.cells.length = 71) (hj : s.jobs.length = 4) (hjk : ∀ x ∈ s.jobs, x.keys = [] ∧ x.raw = []) (ht : s.todo.length = 4) (htk : ∀ q ∈ s.todo, q.length ≤ 2) (hl : s.log.length ≤ 10) (hlk : ∀ e ∈ s.log, e.rows.length ≤ 1) : SmallS s :=
  ⟨by omega, by omega, fun j hj2 => by have h := getD_of (z := zeroJ) hjk j hj2; rw [h.1, h.2]; exact ⟨Nat.zero_le _, Nat.zero_le _⟩, by omega, fun j hj2 => by have h := getD_of (z := ([] : List O)) htk j hj2; omega, by omega, fun j hj2 => by have h := getD_of (z := zeroE) hlk j hj2; omega⟩
theorem fit15 (s : S) (hc : okC s.cells = true) (hj : ∀ x ∈ s.jobs, x.Fit) (ht : ∀ q ∈ s.todo, ∀ x ∈ q, x.Fit) (hl : ∀ e ∈ s.log, e.Fit) (h1 : inW s.serial) (h2 : inW s.now) : s.Fit :=
  ⟨fun z hz => by
    obtain ⟨j, hj2, rfl⟩ := List.getElem_of_mem hz
    have h := okC_at hc j (by have := okC_len hc; omega)
    rw [List.getD_eq_getElem?_getD, List.getElem?_eq_getElem hj2] at h
    have h' : 0 ≤ s.cells[j] ∧ s.cells[j] ≤ 281474976710655 := h
    omega,
   fun j hj2 => getD_of hj j hj2, fun j hj2 i hi => getD_of (z := zeroO) (fun x hx => getD_of (z := ([] : List O)) (P := fun q => ∀ x ∈ q, x.Fit) ht j hj2 x hx) i hi, fun j hj2 => getD_of hl j hj2, h1, h2⟩
theorem fitZ : zeroJ.Fit := ⟨⟨by unfold inW; decide, by decide, by unfold inW; decide, by unfold inW; decide⟩, by unfold inW; decide, fit_nil, fit_nil⟩
theorem w0_15 : inW 0 := by unfold inW; decide
theorem w1_15 : inW 1 := by unfold inW; decide
theorem w2_15 : inW 2 := by unfold inW; decide
theorem fitReg : (⟨1, ⟨#[97]⟩, 1, 0⟩ : O).Fit := ⟨w1_15, (by decide : (⟨#[97]⟩ : ByteArray).size ≤ maxLen), w1_15, w0_15⟩
theorem fitRec {v : Int} (hv : 1 ≤ v ∧ v ≤ 256) : (⟨2, ⟨#[97]⟩, 0, v⟩ : O).Fit := ⟨w2_15, (by decide : (⟨#[97]⟩ : ByteArray).size ≤ maxLen), w0_15, by show inW v; unfold inW; omega⟩
theorem fitFlush : (⟨3, ⟨#[]⟩, 0, 0⟩ : O).Fit := ⟨by unfold inW; decide, by decide, by unfold inW; decide, by unfold inW; decide⟩
theorem fitR_nil : FitR [] := fun j hj => absurd hj (Nat.not_lt_zero _)
theorem todoB_ok {v : Int} (hv : 1 ≤ v ∧ v ≤ 256) : todoOkV [[⟨1, ⟨#[97]⟩, 1, 0⟩, ⟨2, ⟨#[97]⟩, 0, v⟩], [], [], [⟨3, ⟨#[]⟩, 0, 0⟩]] = true := by
  have h2 : decide (0 ≤ v ∧ v ≤ 65535) = true := decide_eq_true (by omega)
  have h : opInV 0 ⟨2, ⟨#[97]⟩, 0, v⟩ = true := by
    show ((if (2 : Int) = 1 then _ else if (2 : Int) = 2 then (keyOkV ⟨#[97]⟩ && (decide ((0 : Int) = 0) && decide (0 ≤ v ∧ v ≤ 65535))) else _) && _) = true
    rw [if_neg (by decide), if_pos rfl, h2]; rfl
  show (decide (4 = 4) && (queueOkV 0 [⟨1, ⟨#[97]⟩, 1, 0⟩, ⟨2, ⟨#[97]⟩, 0, v⟩] && (queueOkV 1 [] && (queueOkV 2 [] && (queueOkV 3 [⟨3, ⟨#[]⟩, 0, 0⟩] && true))))) = true
  have q : queueOkV 0 [⟨1, ⟨#[97]⟩, 1, 0⟩, ⟨2, ⟨#[97]⟩, 0, v⟩] = true := by
    show (decide (2 ≤ 10) && (opInV 0 ⟨1, ⟨#[97]⟩, 1, 0⟩ && (opInV 0 ⟨2, ⟨#[97]⟩, 0, v⟩ && true))) = true
    rw [h]; rfl
  rw [q]; rfl
theorem newB {v : Int} (hv : 1 ≤ v ∧ v ≤ 256) : worldNewV [[⟨1, ⟨#[97]⟩, 1, 0⟩, ⟨2, ⟨#[97]⟩, 0, v⟩], [], [], [⟨3, ⟨#[]⟩, 0, 0⟩]] = stA0 v [] := by
  unfold worldNewV
  rw [if_pos (todoB_ok hv)]; rfl
theorem okB {v : Int} (hv : 1 ≤ v ∧ v ≤ 256) : worldOkV (stA0 v []) = true :=
  good_iff.2 ⟨(by decide : okC (List.replicate 71 0) = true), rfl, todoB_ok hv, (by decide : (0 : Int) ≤ 0 ∧ (0 : Int) ≤ 1000000), (by decide : (0 : Int) ≤ 0 ∧ (0 : Int) ≤ 1000000000), fun i hi => by
    have : i = 0 ∨ i = 1 ∨ i = 2 ∨ i = 3 := by omega
    rcases this with rfl | rfl | rfl | rfl <;> rfl⟩
def sA (v : Int) : Nat → S
  | 0 => stA0 v []
  | k + 1 => stepV (sA v k) 0
def sB (v : Int) : Nat → S
  | 0 => sA v 9
  | k + 1 => stepV (sB v k) 3
theorem sA_ok {v : Int} (hv : 1 ≤ v ∧ v ≤ 256) (k : Nat) : worldOkV (sA v k) = true := by
  induction k with
  | zero => exact okB hv
  | succ k ih => show worldOkV (stepV (sA v k) 0) = true; rw [step_valid]; exact ih
theorem sA_next {v : Int} {k : Nat} {s s' : S} (e : sA v k = s) (h : worldOkV (sA v k) = true) (hn : s.now < 1000000000) (g : doF s 0 = s') : sA v (k + 1) = s' := by
  subst e
  show stepV (sA v k) ((0 : Nat) : Int) = s'
  exact (step_F h hn 0 (by decide)).trans g
theorem sB_next {v : Int} {k : Nat} {s s' : S} (e : sB v k = s) (h : worldOkV (sB v k) = true) (hn : s.now < 1000000000) (g : doF s 3 = s') : sB v (k + 1) = s' := by
  subst e
  show stepV (sB v k) ((3 : Nat) : Int) = s'
  exact (step_F h hn 3 (by decide)).trans g
theorem sB_ok {v : Int} (hv : 1 ≤ v ∧ v ≤ 256) (k : Nat) : worldOkV (sB v k) = true := by
  induction k with
  | zero => exact sA_ok hv 9
  | succ k ih => show worldOkV (stepV (sB v k) 3) = true; rw [step_valid]; exact ih
def lgE0 (v : Int) : List E := []
def lgE1 (v : Int) : List E := lgE0 v ++ [⟨1, 0, 1, 1, ⟨1, ⟨#[97]⟩, 1, 0⟩, 0, -1, 0, 0, []⟩]
theorem sA1 {v : Int} (hv : 1 ≤ v ∧ v ≤ 256) : sA v 1 = stA1 v (lgE1 v) :=
  sA_next (s := stA0 v (lgE0 v)) rfl (sA_ok hv 0) (show (0 : Int) < 1000000000 by decide) (goA1 v (lgE0 v))
theorem sA2 {v : Int} (hv : 1 ≤ v ∧ v ≤ 256) : sA v 2 = stA2 v (lgE1 v) :=
  sA_next (s := stA1 v (lgE1 v)) (sA1 hv) (sA_ok hv 1) (show (1 : Int) < 1000000000 by decide) (goA2 v (lgE1 v))
def lgE2 (v : Int) : List E := lgE1 v ++ [⟨2, 0, 1, 3, ⟨1, ⟨#[97]⟩, 1, 0⟩, 0, -1, 0, 0, []⟩]
theorem sA3 {v : Int} (hv : 1 ≤ v ∧ v ≤ 256) : sA v 3 = stA3 v (lgE2 v) :=
  sA_next (s := stA2 v (lgE1 v)) (sA2 hv) (sA_ok hv 2) (show (2 : Int) < 1000000000 by decide) (goA3 v (lgE1 v))
def lgE3 (v : Int) : List E := lgE2 v ++ [⟨3, 0, 1, 4, ⟨1, ⟨#[97]⟩, 1, 0⟩, 0, -1, 3, 0, []⟩]
theorem sA4 {v : Int} (hv : 1 ≤ v ∧ v ≤ 256) : sA v 4 = stA4 v (lgE3 v) :=
  sA_next (s := stA3 v (lgE2 v)) (sA3 hv) (sA_ok hv 3) (show (3 : Int) < 1000000000 by decide) (goA4 v (lgE2 v))
def lgE4 (v : Int) : List E := lgE3 v ++ [⟨1, 0, 2, 5, ⟨2, ⟨#[97]⟩, 0, v⟩, 0, -1, 0, 0, []⟩]
theorem sA5 {v : Int} (hv : 1 ≤ v ∧ v ≤ 256) : sA v 5 = stA5 v (lgE4 v) :=
  sA_next (s := stA4 v (lgE3 v)) (sA4 hv) (sA_ok hv 4) (show (4 : Int) < 1000000000 by decide) (goA5 v (lgE3 v))
theorem sA6 {v : Int} (hv : 1 ≤ v ∧ v ≤ 256) : sA v 6 = stA6 v (lgE4 v) :=
  sA_next (s := stA5 v (lgE4 v)) (sA5 hv) (sA_ok hv 5) (show (5 : Int) < 1000000000 by decide) (goA6 v (lgE4 v))
theorem sA7 {v : Int} (hv : 1 ≤ v ∧ v ≤ 256) : sA v 7 = stA7 v (lgE4 v) :=
  sA_next (s := stA6 v (lgE4 v)) (sA6 hv) (sA_ok hv 6) (show (6 : Int) < 1000000000 by decide) (goA7 v (lgE4 v))
theorem sA8 {v : Int} (hv : 1 ≤ v ∧ v ≤ 256) : sA v 8 = stA8 v (lgE4 v) :=
  sA_next (s := stA7 v (lgE4 v)) (sA7 hv) (sA_ok hv 7) (show (7 : Int) < 1000000000 by decide) (goA8 v (lgE4 v))
theorem sA9 {v : Int} (hv : 1 ≤ v ∧ v ≤ 256) : sA v 9 = stA9 v (lgE4 v) :=
  sA_next (s := stA8 v (lgE4 v)) (sA8 hv) (sA_ok hv 8) (show (8 : Int) < 1000000000 by decide) (goA9 v (lgE4 v))
def lgE5 (v : Int) : List E := lgE4 v ++ [⟨1, 3, 3, 10, ⟨3, ⟨#[]⟩, 0, 0⟩, 0, -1, 0, 0, []⟩]
theorem sB1 {v : Int} (hv : 1 ≤ v ∧ v ≤ 256) : sB v 1 = stB1 v (lgE5 v) :=
  sB_next (s := stA9 v (lgE4 v)) (sA9 hv) (sB_ok hv 0) (show (9 : Int) < 1000000000 by decide) (goB1 v (lgE4 v))
theorem bump_in15 (x : Int) : inW (bump x) := by
  unfold inW bump
  have := Go.IntKind.wrap_i64 (x + 1)
  first | omega | (rw [this]; unfold wrap64; omega)
theorem sB_wait {v : Int} (hv : 1 ≤ v ∧ v ≤ 256) (n : Nat) (hn : n ≤ 300) : ∃ x, inW x ∧ sB v (n + 2) = stC0 v x (11 + (n : Int)) (logB v) := by
  induction n with
  | zero =>
    exact ⟨1, w1_15, sB_next (sB1 hv) (sB_ok hv 1) (show (10 : Int) < 1000000000 by decide) (goB2 v _)⟩
  | succ n ih =>
    obtain ⟨x, hx, e⟩ := ih (by omega)
    refine ⟨bump x, bump_in15 x, ?_⟩
    refine (sB_next e (sB_ok hv (n + 2)) (show (11 : Int) + (n : Int) < 1000000000 by omega) (waitC v x (11 + (n : Int)) (logB v))).trans ?_
    rw [show (11 : Int) + (n : Int) + 1 = 11 + ((n + 1 : Nat) : Int) by omega]
theorem fitEv {k w s a c n p q : Int} {x : O} (hx : x.Fit) (h : inW k ∧ inW w ∧ inW s ∧ inW a ∧ inW c ∧ inW n ∧ inW p ∧ inW q) : (⟨k, w, s, a, x, c, n, p, q, []⟩ : E).Fit := ⟨hx, h, fitR_nil⟩
theorem logB_fit {v : Int} (hv : 1 ≤ v ∧ v ≤ 256) : ∀ e ∈ logB v, e.Fit ∧ e.rows = [] := by
  intro e he
  unfold logB at he
  simp only [List.nil_append, List.mem_append, List.mem_singleton, List.not_mem_nil, false_or, or_assoc] at he
  rcases he with rfl | rfl | rfl | rfl | rfl | rfl
  · exact ⟨fitEv fitReg (by unfold inW; decide), rfl⟩
  · exact ⟨fitEv fitReg (by unfold inW; decide), rfl⟩
  · exact ⟨fitEv fitReg (by unfold inW; decide), rfl⟩
  · exact ⟨fitEv (fitRec hv) (by unfold inW; decide), rfl⟩
  · exact ⟨fitEv fitFlush (by unfold inW; decide), rfl⟩
  · exact ⟨fitEv fitFlush (by unfold inW; decide), rfl⟩
def lgE6 (v : Int) : List E := lgE5 v ++ [⟨2, 3, 3, 11, ⟨3, ⟨#[]⟩, 0, 0⟩, 0, 0, 0, 0, []⟩]
theorem log_part {l m : List E} {P : E → Prop} (h : ∀ e ∈ l ++ m, P e) : ∀ e ∈ l, P e := fun e he => h e (List.mem_append_left _ he)
theorem lgfit6 {v : Int} (hv : 1 ≤ v ∧ v ≤ 256) : ∀ e ∈ lgE6 v, e.Fit ∧ e.rows = [] := logB_fit hv
theorem lgfit5 {v : Int} (hv : 1 ≤ v ∧ v ≤ 256) : ∀ e ∈ lgE5 v, e.Fit ∧ e.rows = [] := log_part (lgfit6 hv)
theorem lgfit4 {v : Int} (hv : 1 ≤ v ∧ v ≤ 256) : ∀ e ∈ lgE4 v, e.Fit ∧ e.rows = [] := log_part (lgfit5 hv)
theorem lgfit3 {v : Int} (hv : 1 ≤ v ∧ v ≤ 256) : ∀ e ∈ lgE3 v, e.Fit ∧ e.rows = [] := log_part (lgfit4 hv)
theorem lgfit2 {v : Int} (hv : 1 ≤ v ∧ v ≤ 256) : ∀ e ∈ lgE2 v, e.Fit ∧ e.rows = [] := log_part (lgfit3 hv)
theorem lgfit1 {v : Int} (hv : 1 ≤ v ∧ v ≤ 256) : ∀ e ∈ lgE1 v, e.Fit ∧ e.rows = [] := log_part (lgfit2 hv)
theorem lgfit0 {v : Int} (hv : 1 ≤ v ∧ v ≤ 256) : ∀ e ∈ lgE0 v, e.Fit ∧ e.rows = [] := log_part (lgfit1 hv)
theorem tiny_A0 {v : Int} (hv : 1 ≤ v ∧ v ≤ 256) (h : worldOkV (stA0 v (lgE0 v)) = true) : Tiny (stA0 v (lgE0 v)) := by
  have hl : ∀ e ∈ (lgE0 v : List E), e.Fit ∧ e.rows = [] := lgfit0 hv
  refine ⟨small15 _ rfl rfl ?_ rfl ?_ (by show (lgE0 v : List E).length ≤ 10; exact Nat.le_of_ble_eq_true rfl) (fun e he => (hl e he).2), fit15 _ (good_iff.1 h).cells ?_ ?_ (fun e he => (hl e he).1) (show inW 0 by unfold inW; decide) (by show inW 0; unfold inW; decide), h⟩
  · intro jj hx
    have hx' : jj ∈ ([zeroJ, zeroJ, zeroJ, zeroJ] : List J) := hx
    simp only [List.mem_cons, List.not_mem_nil, or_false] at hx'
    rcases hx' with rfl | rfl | rfl | rfl <;> exact ⟨rfl, rfl⟩
  · intro q hq
    have hq' : q ∈ ([[⟨1, ⟨#[97]⟩, 1, 0⟩, ⟨2, ⟨#[97]⟩, 0, v⟩], [], [], [⟨3, ⟨#[]⟩, 0, 0⟩]] : List (List O)) := hq
    simp only [List.mem_cons, List.not_mem_nil, or_false] at hq'
    rcases hq' with rfl | rfl | rfl | rfl <;> first | decide | exact Nat.le_refl _ | simp
  · intro jj hx
    have hx' : jj ∈ ([zeroJ, zeroJ, zeroJ, zeroJ] : List J) := hx
    simp only [List.mem_cons, List.not_mem_nil, or_false] at hx'
    rcases hx' with rfl | rfl | rfl | rfl
    · exact fitZ
    · exact fitZ
    · exact fitZ
    · exact fitZ
  · intro q hq x hx
    have hq' : q ∈ ([[⟨1, ⟨#[97]⟩, 1, 0⟩, ⟨2, ⟨#[97]⟩, 0, v⟩], [], [], [⟨3, ⟨#[]⟩, 0, 0⟩]] : List (List O)) := hq
    simp only [List.mem_cons, List.not_mem_nil, or_false] at hq'
    rcases hq' with rfl | rfl | rfl | rfl
    · simp only [List.mem_cons, List.not_mem_nil, or_false] at hx
      rcases hx with rfl | rfl
      · exact fitReg
      · exact fitRec hv
    · cases hx
    · cases hx
    · simp only [List.mem_cons, List.not_mem_nil, or_false] at hx
      rcases hx with rfl
      · exact fitFlush
theorem tiny_A1 {v : Int} (hv : 1 ≤ v ∧ v ≤ 256) (h : worldOkV (stA1 v (lgE1 v)) = true) : Tiny (stA1 v (lgE1 v)) := by
  have hl : ∀ e ∈ (lgE1 v : List E), e.Fit ∧ e.rows = [] := lgfit1 hv
  refine ⟨small15 _ rfl rfl ?_ rfl ?_ (by show (lgE1 v : List E).length ≤ 10; exact Nat.le_of_ble_eq_true rfl) (fun e he => (hl e he).2), fit15 _ (good_iff.1 h).cells ?_ ?_ (fun e he => (hl e he).1) (show inW 1 by unfold inW; decide) (by show inW 1; unfold inW; decide), h⟩
  · intro jj hx
    have hx' : jj ∈ ([{ busy := true, op := ⟨1, ⟨#[97]⟩, 1, 0⟩, serial := 1, pc := 0, k := 0, slot := 0, what := 0, e := 0, stamp := 0, old := 0, flips := 0, steps := 0, code := 0, keys := [], raw := [] }, zeroJ, zeroJ, zeroJ] : List J) := hx
    simp only [List.mem_cons, List.not_mem_nil, or_false] at hx'
    rcases hx' with rfl | rfl | rfl | rfl <;> exact ⟨rfl, rfl⟩
  · intro q hq
    have hq' : q ∈ ([[⟨2, ⟨#[97]⟩, 0, v⟩], [], [], [⟨3, ⟨#[]⟩, 0, 0⟩]] : List (List O)) := hq
    simp only [List.mem_cons, List.not_mem_nil, or_false] at hq'
    rcases hq' with rfl | rfl | rfl | rfl <;> first | decide | exact Nat.le_refl _ | simp
  · intro jj hx
    have hx' : jj ∈ ([{ busy := true, op := ⟨1, ⟨#[97]⟩, 1, 0⟩, serial := 1, pc := 0, k := 0, slot := 0, what := 0, e := 0, stamp := 0, old := 0, flips := 0, steps := 0, code := 0, keys := [], raw := [] }, zeroJ, zeroJ, zeroJ] : List J) := hx
    simp only [List.mem_cons, List.not_mem_nil, or_false] at hx'
    rcases hx' with rfl | rfl | rfl | rfl
    · exact ⟨fitReg, by simp only [inW] ; omega, fit_nil, fit_nil⟩
    · exact fitZ
    · exact fitZ
    · exact fitZ
  · intro q hq x hx
    have hq' : q ∈ ([[⟨2, ⟨#[97]⟩, 0, v⟩], [], [], [⟨3, ⟨#[]⟩, 0, 0⟩]] : List (List O)) := hq
    simp only [List.mem_cons, List.not_mem_nil, or_false] at hq'
    rcases hq' with rfl | rfl | rfl | rfl
    · simp only [List.mem_cons, List.not_mem_nil, or_false] at hx
      rcases hx with rfl
      · exact fitRec hv
    · cases hx
    · cases hx
    · simp only [List.mem_cons, List.not_mem_nil, or_false] at hx
      rcases hx with rfl
      · exact fitFlush
theorem tiny_A2 {v : Int} (hv : 1 ≤ v ∧ v ≤ 256) (h : worldOkV (stA2 v (lgE1 v)) = true) : Tiny (stA2 v (lgE1 v)) := by
  have hl : ∀ e ∈ (lgE1 v : List E), e.Fit ∧ e.rows = [] := lgfit1 hv
  refine ⟨small15 _ rfl rfl ?_ rfl ?_ (by show (lgE1 v : List E).length ≤ 10; exact Nat.le_of_ble_eq_true rfl) (fun e he => (hl e he).2), fit15 _ (good_iff.1 h).cells ?_ ?_ (fun e he => (hl e he).1) (show inW 1 by unfold inW; decide) (by show inW 2; unfold inW; decide), h⟩
  · intro jj hx
    have hx' : jj ∈ ([{ busy := true, op := ⟨1, ⟨#[97]⟩, 1, 0⟩, serial := 1, pc := 1, k := 0, slot := 0, what := 0, e := 0, stamp := 0, old := 0, flips := 0, steps := 1, code := 0, keys := [], raw := [] }, zeroJ, zeroJ, zeroJ] : List J) := hx
    simp only [List.mem_cons, List.not_mem_nil, or_false] at hx'
    rcases hx' with rfl | rfl | rfl | rfl <;> exact ⟨rfl, rfl⟩
  · intro q hq
    have hq' : q ∈ ([[⟨2, ⟨#[97]⟩, 0, v⟩], [], [], [⟨3, ⟨#[]⟩, 0, 0⟩]] : List (List O)) := hq
    simp only [List.mem_cons, List.not_mem_nil, or_false] at hq'
    rcases hq' with rfl | rfl | rfl | rfl <;> first | decide | exact Nat.le_refl _ | simp
  · intro jj hx
    have hx' : jj ∈ ([{ busy := true, op := ⟨1, ⟨#[97]⟩, 1, 0⟩, serial := 1, pc := 1, k := 0, slot := 0, what := 0, e := 0, stamp := 0, old := 0, flips := 0, steps := 1, code := 0, keys := [], raw := [] }, zeroJ, zeroJ, zeroJ] : List J) := hx
    simp only [List.mem_cons, List.not_mem_nil, or_false] at hx'
    rcases hx' with rfl | rfl | rfl | rfl
    · exact ⟨fitReg, by simp only [inW] ; omega, fit_nil, fit_nil⟩
    · exact fitZ
    · exact fitZ
    · exact fitZ
  · intro q hq x hx
    have hq' : q ∈ ([[⟨2, ⟨#[97]⟩, 0, v⟩], [], [], [⟨3, ⟨#[]⟩, 0, 0⟩]] : List (List O)) := hq
    simp only [List.mem_cons, List.not_mem_nil, or_false] at hq'
    rcases hq' with rfl | rfl | rfl | rfl
    · simp only [List.mem_cons, List.not_mem_nil, or_false] at hx
      rcases hx with rfl
      · exact fitRec hv
    · cases hx
    · cases hx
    · simp only [List.mem_cons, List.not_mem_nil, or_false] at hx
      rcases hx with rfl
      · exact fitFlush
theorem tiny_A3 {v : Int} (hv : 1 ≤ v ∧ v ≤ 256) (h : worldOkV (stA3 v (lgE2 v)) = true) : Tiny (stA3 v (lgE2 v)) := by
  have hl : ∀ e ∈ (lgE2 v : List E), e.Fit ∧ e.rows = [] := lgfit2 hv
  refine ⟨small15 _ rfl rfl ?_ rfl ?_ (by show (lgE2 v : List E).length ≤ 10; exact Nat.le_of_ble_eq_true rfl) (fun e he => (hl e he).2), fit15 _ (good_iff.1 h).cells ?_ ?_ (fun e he => (hl e he).1) (show inW 1 by unfold inW; decide) (by show inW 3; unfold inW; decide), h⟩
  · intro jj hx
    have hx' : jj ∈ ([{ busy := true, op := ⟨1, ⟨#[97]⟩, 1, 0⟩, serial := 1, pc := 11, k := 0, slot := 0, what := 0, e := 0, stamp := 0, old := 0, flips := 0, steps := 2, code := 0, keys := [], raw := [] }, zeroJ, zeroJ, zeroJ] : List J) := hx
    simp only [List.mem_cons, List.not_mem_nil, or_false] at hx'
    rcases hx' with rfl | rfl | rfl | rfl <;> exact ⟨rfl, rfl⟩
  · intro q hq
    have hq' : q ∈ ([[⟨2, ⟨#[97]⟩, 0, v⟩], [], [], [⟨3, ⟨#[]⟩, 0, 0⟩]] : List (List O)) := hq
    simp only [List.mem_cons, List.not_mem_nil, or_false] at hq'
    rcases hq' with rfl | rfl | rfl | rfl <;> first | decide | exact Nat.le_refl _ | simp
  · intro jj hx
    have hx' : jj ∈ ([{ busy := true, op := ⟨1, ⟨#[97]⟩, 1, 0⟩, serial := 1, pc := 11, k := 0, slot := 0, what := 0, e := 0, stamp := 0, old := 0, flips := 0, steps := 2, code := 0, keys := [], raw := [] }, zeroJ, zeroJ, zeroJ] : List J) := hx
    simp only [List.mem_cons, List.not_mem_nil, or_false] at hx'
    rcases hx' with rfl | rfl | rfl | rfl
    · exact ⟨fitReg, by simp only [inW] ; omega, fit_nil, fit_nil⟩
    · exact fitZ
    · exact fitZ
    · exact fitZ
  · intro q hq x hx
    have hq' : q ∈ ([[⟨2, ⟨#[97]⟩, 0, v⟩], [], [], [⟨3, ⟨#[]⟩, 0, 0⟩]] : List (List O)) := hq
    simp only [List.mem_cons, List.not_mem_nil, or_false] at hq'
    rcases hq' with rfl | rfl | rfl | rfl
    · simp only [List.mem_cons, List.not_mem_nil, or_false] at hx
      rcases hx with rfl
      · exact fitRec hv
    · cases hx
    · cases hx
    · simp only [List.mem_cons, List.not_mem_nil, or_false] at hx
      rcases hx with rfl
      · exact fitFlush
theorem tiny_A4 {v : Int} (hv : 1 ≤ v ∧ v ≤ 256) (h : worldOkV (stA4 v (lgE3 v)) = true) : Tiny (stA4 v (lgE3 v)) := by
  have hl : ∀ e ∈ (lgE3 v : List E), e.Fit ∧ e.rows = [] := lgfit3 hv
  refine ⟨small15 _ rfl rfl ?_ rfl ?_ (by show (lgE3 v : List E).length ≤ 10; exact Nat.le_of_ble_eq_true rfl) (fun e he => (hl e he).2), fit15 _ (good_iff.1 h).cells ?_ ?_ (fun e he => (hl e he).1) (show inW 1 by unfold inW; decide) (by show inW 4; unfold inW; decide), h⟩
  · intro jj hx
    have hx' : jj ∈ ([zeroJ, zeroJ, zeroJ, zeroJ] : List J) := hx
    simp only [List.mem_cons, List.not_mem_nil, or_false] at hx'
    rcases hx' with rfl | rfl | rfl | rfl <;> exact ⟨rfl, rfl⟩
  · intro q hq
    have hq' : q ∈ ([[⟨2, ⟨#[97]⟩, 0, v⟩], [], [], [⟨3, ⟨#[]⟩, 0, 0⟩]] : List (List O)) := hq
    simp only [List.mem_cons, List.not_mem_nil, or_false] at hq'
    rcases hq' with rfl | rfl | rfl | rfl <;> first | decide | exact Nat.le_refl _ | simp
  · intro jj hx
    have hx' : jj ∈ ([zeroJ, zeroJ, zeroJ, zeroJ] : List J) := hx
    simp only [List.mem_cons, List.not_mem_nil, or_false] at hx'
    rcases hx' with rfl | rfl | rfl | rfl
    · exact fitZ
    · exact fitZ
    · exact fitZ
    · exact fitZ
  · intro q hq x hx
    have hq' : q ∈ ([[⟨2, ⟨#[97]⟩, 0, v⟩], [], [], [⟨3, ⟨#[]⟩, 0, 0⟩]] : List (List O)) := hq
    simp only [List.mem_cons, List.not_mem_nil, or_false] at hq'
    rcases hq' with rfl | rfl | rfl | rfl
    · simp only [List.mem_cons, List.not_mem_nil, or_false] at hx
      rcases hx with rfl
      · exact fitRec hv
    · cases hx
    · cases hx
    · simp only [List.mem_cons, List.not_mem_nil, or_false] at hx
      rcases hx with rfl
      · exact fitFlush
theorem tiny_A5 {v : Int} (hv : 1 ≤ v ∧ v ≤ 256) (h : worldOkV (stA5 v (lgE4 v)) = true) : Tiny (stA5 v (lgE4 v)) := by
  have hl : ∀ e ∈ (lgE4 v : List E), e.Fit ∧ e.rows = [] := lgfit4 hv
  refine ⟨small15 _ rfl rfl ?_ rfl ?_ (by show (lgE4 v : List E).length ≤ 10; exact Nat.le_of_ble_eq_true rfl) (fun e he => (hl e he).2), fit15 _ (good_iff.1 h).cells ?_ ?_ (fun e he => (hl e he).1) (show inW 2 by unfold inW; decide) (by show inW 5; unfold inW; decide), h⟩
  · intro jj hx
    have hx' : jj ∈ ([{ busy := true, op := ⟨2, ⟨#[97]⟩, 0, v⟩, serial := 2, pc := 0, k := 0, slot := 0, what := 0, e := 0, stamp := 0, old := 0, flips := 0, steps := 0, code := 0, keys := [], raw := [] }, zeroJ, zeroJ, zeroJ] : List J) := hx
    simp only [List.mem_cons, List.not_mem_nil, or_false] at hx'
    rcases hx' with rfl | rfl | rfl | rfl <;> exact ⟨rfl, rfl⟩
  · intro q hq
    have hq' : q ∈ ([[], [], [], [⟨3, ⟨#[]⟩, 0, 0⟩]] : List (List O)) := hq
    simp only [List.mem_cons, List.not_mem_nil, or_false] at hq'
    rcases hq' with rfl | rfl | rfl | rfl <;> first | decide | exact Nat.le_refl _ | simp
  · intro jj hx
    have hx' : jj ∈ ([{ busy := true, op := ⟨2, ⟨#[97]⟩, 0, v⟩, serial := 2, pc := 0, k := 0, slot := 0, what := 0, e := 0, stamp := 0, old := 0, flips := 0, steps := 0, code := 0, keys := [], raw := [] }, zeroJ, zeroJ, zeroJ] : List J) := hx
    simp only [List.mem_cons, List.not_mem_nil, or_false] at hx'
    rcases hx' with rfl | rfl | rfl | rfl
    · exact ⟨(fitRec hv), by simp only [inW] ; omega, fit_nil, fit_nil⟩
    · exact fitZ
    · exact fitZ
    · exact fitZ
  · intro q hq x hx
    have hq' : q ∈ ([[], [], [], [⟨3, ⟨#[]⟩, 0, 0⟩]] : List (List O)) := hq
    simp only [List.mem_cons, List.not_mem_nil, or_false] at hq'
    rcases hq' with rfl | rfl | rfl | rfl
    · cases hx
    · cases hx
    · cases hx
    · simp only [List.mem_cons, List.not_mem_nil, or_false] at hx
      rcases hx with rfl
      · exact fitFlush
theorem tiny_A6 {v : Int} (hv : 1 ≤ v ∧ v ≤ 256) (h : worldOkV (stA6 v (lgE4 v)) = true) : Tiny (stA6 v (lgE4 v)) := by
  have hl : ∀ e ∈ (lgE4 v : List E), e.Fit ∧ e.rows = [] := lgfit4 hv
  refine ⟨small15 _ rfl rfl ?_ rfl ?_ (by show (lgE4 v : List E).length ≤ 10; exact Nat.le_of_ble_eq_true rfl) (fun e he => (hl e he).2), fit15 _ (good_iff.1 h).cells ?_ ?_ (fun e he => (hl e he).1) (show inW 2 by unfold inW; decide) (by show inW 6; unfold inW; decide), h⟩
  · intro jj hx
    have hx' : jj ∈ ([{ busy := true, op := ⟨2, ⟨#[97]⟩, 0, v⟩, serial := 2, pc := 2, k := 0, slot := 0, what := 1, e := 0, stamp := 0, old := 0, flips := 0, steps := 1, code := 0, keys := [], raw := [] }, zeroJ, zeroJ, zeroJ] : List J) := hx
    simp only [List.mem_cons, List.not_mem_nil, or_false] at hx'
    rcases hx' with rfl | rfl | rfl | rfl <;> exact ⟨rfl, rfl⟩
  · intro q hq
    have hq' : q ∈ ([[], [], [], [⟨3, ⟨#[]⟩, 0, 0⟩]] : List (List O)) := hq
    simp only [List.mem_cons, List.not_mem_nil, or_false] at hq'
    rcases hq' with rfl | rfl | rfl | rfl <;> first | decide | exact Nat.le_refl _ | simp
  · intro jj hx
    have hx' : jj ∈ ([{ busy := true, op := ⟨2, ⟨#[97]⟩, 0, v⟩, serial := 2, pc := 2, k := 0, slot := 0, what := 1, e := 0, stamp := 0, old := 0, flips := 0, steps := 1, code := 0, keys := [], raw := [] }, zeroJ, zeroJ, zeroJ] : List J) := hx
    simp only [List.mem_cons, List.not_mem_nil, or_false] at hx'
    rcases hx' with rfl | rfl | rfl | rfl
    · exact ⟨(fitRec hv), by simp only [inW] ; omega, fit_nil, fit_nil⟩
    · exact fitZ
    · exact fitZ
    · exact fitZ
  · intro q hq x hx
    have hq' : q ∈ ([[], [], [], [⟨3, ⟨#[]⟩, 0, 0⟩]] : List (List O)) := hq
    simp only [List.mem_cons, List.not_mem_nil, or_false] at hq'
    rcases hq' with rfl | rfl | rfl | rfl
    · cases hx
    · cases hx
    · cases hx
    · simp only [List.mem_cons, List.not_mem_nil, or_false] at hx
      rcases hx with rfl
      · exact fitFlush
theorem tiny_A7 {v : Int} (hv : 1 ≤ v ∧ v ≤ 256) (h : worldOkV (stA7 v (lgE4 v)) = true) : Tiny (stA7 v (lgE4 v)) := by
  have hl : ∀ e ∈ (lgE4 v : List E), e.Fit ∧ e.rows = [] := lgfit4 hv
  refine ⟨small15 _ rfl rfl ?_ rfl ?_ (by show (lgE4 v : List E).length ≤ 10; exact Nat.le_of_ble_eq_true rfl) (fun e he => (hl e he).2), fit15 _ (good_iff.1 h).cells ?_ ?_ (fun e he => (hl e he).1) (show inW 2 by unfold inW; decide) (by show inW 7; unfold inW; decide), h⟩
  · intro jj hx
    have hx' : jj ∈ ([{ busy := true, op := ⟨2, ⟨#[97]⟩, 0, v⟩, serial := 2, pc := 3, k := 0, slot := 0, what := 1, e := 0, stamp := 0, old := 0, flips := 0, steps := 2, code := 0, keys := [], raw := [] }, zeroJ, zeroJ, zeroJ] : List J) := hx
    simp only [List.mem_cons, List.not_mem_nil, or_false] at hx'
    rcases hx' with rfl | rfl | rfl | rfl <;> exact ⟨rfl, rfl⟩
  · intro q hq
    have hq' : q ∈ ([[], [], [], [⟨3, ⟨#[]⟩, 0, 0⟩]] : List (List O)) := hq
    simp only [List.mem_cons, List.not_mem_nil, or_false] at hq'
    rcases hq' with rfl | rfl | rfl | rfl <;> first | decide | exact Nat.le_refl _ | simp
  · intro jj hx
    have hx' : jj ∈ ([{ busy := true, op := ⟨2, ⟨#[97]⟩, 0, v⟩, serial := 2, pc := 3, k := 0, slot := 0, what := 1, e := 0, stamp := 0, old := 0, flips := 0, steps := 2, code := 0, keys := [], raw := [] }, zeroJ, zeroJ, zeroJ] : List J) := hx
    simp only [List.mem_cons, List.not_mem_nil, or_false] at hx'
    rcases hx' with rfl | rfl | rfl | rfl
    · exact ⟨(fitRec hv), by simp only [inW] ; omega, fit_nil, fit_nil⟩
    · exact fitZ
    · exact fitZ
    · exact fitZ
  · intro q hq x hx
    have hq' : q ∈ ([[], [], [], [⟨3, ⟨#[]⟩, 0, 0⟩]] : List (List O)) := hq
    simp only [List.mem_cons, List.not_mem_nil, or_false] at hq'
    rcases hq' with rfl | rfl | rfl | rfl
    · cases hx
    · cases hx
    · cases hx
    · simp only [List.mem_cons, List.not_mem_nil, or_false] at hx
      rcases hx with rfl
      · exact fitFlush
theorem tiny_A8 {v : Int} (hv : 1 ≤ v ∧ v ≤ 256) (h : worldOkV (stA8 v (lgE4 v)) = true) : Tiny (stA8 v (lgE4 v)) := by
  have hl : ∀ e ∈ (lgE4 v : List E), e.Fit ∧ e.rows = [] := lgfit4 hv
  refine ⟨small15 _ rfl rfl ?_ rfl ?_ (by show (lgE4 v : List E).length ≤ 10; exact Nat.le_of_ble_eq_true rfl) (fun e he => (hl e he).2), fit15 _ (good_iff.1 h).cells ?_ ?_ (fun e he => (hl e he).1) (show inW 2 by unfold inW; decide) (by show inW 8; unfold inW; decide), h⟩
  · intro jj hx
    have hx' : jj ∈ ([{ busy := true, op := ⟨2, ⟨#[97]⟩, 0, v⟩, serial := 2, pc := 4, k := 0, slot := 0, what := 1, e := 0, stamp := 0, old := 0, flips := 0, steps := 3, code := 0, keys := [], raw := [] }, zeroJ, zeroJ, zeroJ] : List J) := hx
    simp only [List.mem_cons, List.not_mem_nil, or_false] at hx'
    rcases hx' with rfl | rfl | rfl | rfl <;> exact ⟨rfl, rfl⟩
  · intro q hq
    have hq' : q ∈ ([[], [], [], [⟨3, ⟨#[]⟩, 0, 0⟩]] : List (List O)) := hq
    simp only [List.mem_cons, List.not_mem_nil, or_false] at hq'
    rcases hq' with rfl | rfl | rfl | rfl <;> first | decide | exact Nat.le_refl _ | simp
  · intro jj hx
    have hx' : jj ∈ ([{ busy := true, op := ⟨2, ⟨#[97]⟩, 0, v⟩, serial := 2, pc := 4, k := 0, slot := 0, what := 1, e := 0, stamp := 0, old := 0, flips := 0, steps := 3, code := 0, keys := [], raw := [] }, zeroJ, zeroJ, zeroJ] : List J) := hx
    simp only [List.mem_cons, List.not_mem_nil, or_false] at hx'
    rcases hx' with rfl | rfl | rfl | rfl
    · exact ⟨(fitRec hv), by simp only [inW] ; omega, fit_nil, fit_nil⟩
    · exact fitZ
    · exact fitZ
    · exact fitZ
  · intro q hq x hx
    have hq' : q ∈ ([[], [], [], [⟨3, ⟨#[]⟩, 0, 0⟩]] : List (List O)) := hq
    simp only [List.mem_cons, List.not_mem_nil, or_false] at hq'
    rcases hq' with rfl | rfl | rfl | rfl
    · cases hx
    · cases hx
    · cases hx
    · simp only [List.mem_cons, List.not_mem_nil, or_false] at hx
      rcases hx with rfl
      · exact fitFlush
theorem tiny_A9 {v : Int} (hv : 1 ≤ v ∧ v ≤ 256) (h : worldOkV (stA9 v (lgE4 v)) = true) : Tiny (stA9 v (lgE4 v)) := by
  have hl : ∀ e ∈ (lgE4 v : List E), e.Fit ∧ e.rows = [] := lgfit4 hv
  refine ⟨small15 _ rfl rfl ?_ rfl ?_ (by show (lgE4 v : List E).length ≤ 10; exact Nat.le_of_ble_eq_true rfl) (fun e he => (hl e he).2), fit15 _ (good_iff.1 h).cells ?_ ?_ (fun e he => (hl e he).1) (show inW 2 by unfold inW; decide) (by show inW 9; unfold inW; decide), h⟩
  · intro jj hx
    have hx' : jj ∈ ([{ busy := true, op := ⟨2, ⟨#[97]⟩, 0, v⟩, serial := 2, pc := 5, k := 0, slot := 0, what := 1, e := 0, stamp := 0, old := 0, flips := 0, steps := 4, code := 0, keys := [], raw := [] }, zeroJ, zeroJ, zeroJ] : List J) := hx
    simp only [List.mem_cons, List.not_mem_nil, or_false] at hx'
    rcases hx' with rfl | rfl | rfl | rfl <;> exact ⟨rfl, rfl⟩
  · intro q hq
    have hq' : q ∈ ([[], [], [], [⟨3, ⟨#[]⟩, 0, 0⟩]] : List (List O)) := hq
    simp only [List.mem_cons, List.not_mem_nil, or_false] at hq'
    rcases hq' with rfl | rfl | rfl | rfl <;> first | decide | exact Nat.le_refl _ | simp
  · intro jj hx
    have hx' : jj ∈ ([{ busy := true, op := ⟨2, ⟨#[97]⟩, 0, v⟩, serial := 2, pc := 5, k := 0, slot := 0, what := 1, e := 0, stamp := 0, old := 0, flips := 0, steps := 4, code := 0, keys := [], raw := [] }, zeroJ, zeroJ, zeroJ] : List J) := hx
    simp only [List.mem_cons, List.not_mem_nil, or_false] at hx'
    rcases hx' with rfl | rfl | rfl | rfl
    · exact ⟨(fitRec hv), by simp only [inW] ; omega, fit_nil, fit_nil⟩
    · exact fitZ
    · exact fitZ
    · exact fitZ
  · intro q hq x hx
    have hq' : q ∈ ([[], [], [], [⟨3, ⟨#[]⟩, 0, 0⟩]] : List (List O)) := hq
    simp only [List.mem_cons, List.not_mem_nil, or_false] at hq'
    rcases hq' with rfl | rfl | rfl | rfl
    · cases hx
    · cases hx
    · cases hx
    · simp only [List.mem_cons, List.not_mem_nil, or_false] at hx
      rcases hx with rfl
      · exact fitFlush
theorem tiny_B1 {v : Int} (hv : 1 ≤ v ∧ v ≤ 256) (h : worldOkV (stB1 v (lgE5 v)) = true) : Tiny (stB1 v (lgE5 v)) := by
  have hl : ∀ e ∈ (lgE5 v : List E), e.Fit ∧ e.rows = [] := lgfit5 hv
  refine ⟨small15 _ rfl rfl ?_ rfl ?_ (by show (lgE5 v : List E).length ≤ 10; exact Nat.le_of_ble_eq_true rfl) (fun e he => (hl e he).2), fit15 _ (good_iff.1 h).cells ?_ ?_ (fun e he => (hl e he).1) (show inW 3 by unfold inW; decide) (by show inW 10; unfold inW; decide), h⟩
  · intro jj hx
    have hx' : jj ∈ ([{ busy := true, op := ⟨2, ⟨#[97]⟩, 0, v⟩, serial := 2, pc := 5, k := 0, slot := 0, what := 1, e := 0, stamp := 0, old := 0, flips := 0, steps := 4, code := 0, keys := [], raw := [] }, zeroJ, zeroJ, { busy := true, op := ⟨3, ⟨#[]⟩, 0, 0⟩, serial := 3, pc := 12, k := 0, slot := 0, what := 0, e := 0, stamp := 0, old := 0, flips := 0, steps := 0, code := 0, keys := [], raw := [] }] : List J) := hx
    simp only [List.mem_cons, List.not_mem_nil, or_false] at hx'
    rcases hx' with rfl | rfl | rfl | rfl <;> exact ⟨rfl, rfl⟩
  · intro q hq
    have hq' : q ∈ ([[], [], [], []] : List (List O)) := hq
    simp only [List.mem_cons, List.not_mem_nil, or_false] at hq'
    rcases hq' with rfl | rfl | rfl | rfl <;> first | decide | exact Nat.le_refl _ | simp
  · intro jj hx
    have hx' : jj ∈ ([{ busy := true, op := ⟨2, ⟨#[97]⟩, 0, v⟩, serial := 2, pc := 5, k := 0, slot := 0, what := 1, e := 0, stamp := 0, old := 0, flips := 0, steps := 4, code := 0, keys := [], raw := [] }, zeroJ, zeroJ, { busy := true, op := ⟨3, ⟨#[]⟩, 0, 0⟩, serial := 3, pc := 12, k := 0, slot := 0, what := 0, e := 0, stamp := 0, old := 0, flips := 0, steps := 0, code := 0, keys := [], raw := [] }] : List J) := hx
    simp only [List.mem_cons, List.not_mem_nil, or_false] at hx'
    rcases hx' with rfl | rfl | rfl | rfl
    · exact ⟨(fitRec hv), by simp only [inW] ; omega, fit_nil, fit_nil⟩
    · exact fitZ
    · exact fitZ
    · exact ⟨fitFlush, by simp only [inW] ; omega, fit_nil, fit_nil⟩
  · intro q hq x hx
    have hq' : q ∈ ([[], [], [], []] : List (List O)) := hq
    simp only [List.mem_cons, List.not_mem_nil, or_false] at hq'
    rcases hq' with rfl | rfl | rfl | rfl
    · cases hx
    · cases hx
    · cases hx
    · cases hx
theorem tiny_C0 {v : Int} (hv : 1 ≤ v ∧ v ≤ 256) {x n : Int} (hx9 : inW x) (hn9 : inW n) (h : worldOkV (stC0 v x n (logB v)) = true) : Tiny (stC0 v x n (logB v)) := by
  have hl : ∀ e ∈ (logB v : List E), e.Fit ∧ e.rows = [] := lgfit6 hv
  refine ⟨small15 _ rfl rfl ?_ rfl ?_ (by show (logB v : List E).length ≤ 10; exact Nat.le_of_ble_eq_true rfl) (fun e he => (hl e he).2), fit15 _ (good_iff.1 h).cells ?_ ?_ (fun e he => (hl e he).1) (show inW 3 by unfold inW; decide) (by exact hn9), h⟩
  · intro jj hx
    have hx' : jj ∈ ([{ busy := true, op := ⟨2, ⟨#[97]⟩, 0, v⟩, serial := 2, pc := 5, k := 0, slot := 0, what := 1, e := 0, stamp := 0, old := 0, flips := 0, steps := 4, code := 0, keys := [], raw := [] }, zeroJ, zeroJ, { busy := true, op := ⟨3, ⟨#[]⟩, 0, 0⟩, serial := 3, pc := 13, k := 0, slot := 0, what := 0, e := 0, stamp := 0, old := 0, flips := 0, steps := x, code := 0, keys := [], raw := [] }] : List J) := hx
    simp only [List.mem_cons, List.not_mem_nil, or_false] at hx'
    rcases hx' with rfl | rfl | rfl | rfl <;> exact ⟨rfl, rfl⟩
  · intro q hq
    have hq' : q ∈ ([[], [], [], []] : List (List O)) := hq
    simp only [List.mem_cons, List.not_mem_nil, or_false] at hq'
    rcases hq' with rfl | rfl | rfl | rfl <;> first | decide | exact Nat.le_refl _ | simp
  · intro jj hx
    have hx' : jj ∈ ([{ busy := true, op := ⟨2, ⟨#[97]⟩, 0, v⟩, serial := 2, pc := 5, k := 0, slot := 0, what := 1, e := 0, stamp := 0, old := 0, flips := 0, steps := 4, code := 0, keys := [], raw := [] }, zeroJ, zeroJ, { busy := true, op := ⟨3, ⟨#[]⟩, 0, 0⟩, serial := 3, pc := 13, k := 0, slot := 0, what := 0, e := 0, stamp := 0, old := 0, flips := 0, steps := x, code := 0, keys := [], raw := [] }] : List J) := hx
    simp only [List.mem_cons, List.not_mem_nil, or_false] at hx'
    rcases hx' with rfl | rfl | rfl | rfl
    · exact ⟨(fitRec hv), by simp only [inW] at hx9 ⊢; omega, fit_nil, fit_nil⟩
    · exact fitZ
    · exact fitZ
    · exact ⟨fitFlush, by simp only [inW] at hx9 ⊢; omega, fit_nil, fit_nil⟩
  · intro q hq x hx
    have hq' : q ∈ ([[], [], [], []] : List (List O)) := hq
    simp only [List.mem_cons, List.not_mem_nil, or_false] at hq'
    rcases hq' with rfl | rfl | rfl | rfl
    · cases hx
    · cases hx
    · cases hx
    · cases hx
theorem sA_tiny {v : Int} (hv : 1 ≤ v ∧ v ≤ 256) (k : Nat) (hk : k ≤ 9) : Tiny (sA v k) := by
  have h := sA_ok hv k
  have : k = 0 ∨ k = 1 ∨ k = 2 ∨ k = 3 ∨ k = 4 ∨ k = 5 ∨ k = 6 ∨ k = 7 ∨ k = 8 ∨ k = 9 := by omega
  rcases this with rfl | rfl | rfl | rfl | rfl | rfl | rfl | rfl | rfl | rfl
  · exact tiny_A0 hv h
  · rw [sA1 hv] at h ⊢; exact tiny_A1 hv h
  · rw [sA2 hv] at h ⊢; exact tiny_A2 hv h
  · rw [sA3 hv] at h ⊢; exact tiny_A3 hv h
  · rw [sA4 hv] at h ⊢; exact tiny_A4 hv h
  · rw [sA5 hv] at h ⊢; exact tiny_A5 hv h
  · rw [sA6 hv] at h ⊢; exact tiny_A6 hv h
  · rw [sA7 hv] at h ⊢; exact tiny_A7 hv h
  · rw [sA8 hv] at h ⊢; exact tiny_A8 hv h
  · rw [sA9 hv] at h ⊢; exact tiny_A9 hv h
theorem sB_tiny {v : Int} (hv : 1 ≤ v ∧ v ≤ 256) (k : Nat) (hk : k ≤ 300) : Tiny (sB v k) := by
  match k, hk with
  | 0, _ => exact sA_tiny hv 9 (Nat.le_refl _)
  | 1, _ => have h := sB_ok hv 1; rw [sB1 hv] at h ⊢; exact tiny_B1 hv h
  | n + 2, hk =>
    obtain ⟨x, hx, e⟩ := sB_wait hv n (by omega)
    have h := sB_ok hv (n + 2)
    rw [e] at h ⊢
    exact tiny_C0 hv hx (by unfold inW; omega) h
theorem sB_log {v : Int} (hv : 1 ≤ v ∧ v ≤ 256) (k : Nat) (hk : k ≤ 300) : (sB v k).log.length ≤ 10 := by
  match k, hk with
  | 0, _ => show (sA v 9).log.length ≤ 10; rw [sA9 hv]; exact Nat.le_of_ble_eq_true rfl
  | 1, _ => rw [sB1 hv]; exact Nat.le_of_ble_eq_true rfl
  | n + 2, hk =>
    obtain ⟨x, hx, e⟩ := sB_wait hv n (by omega)
    rw [e]; exact Nat.le_of_ble_eq_true rfl
theorem lookA {v : Int} (hv : 1 ≤ v ∧ v ≤ 256) : (sA v 9).jobs.length = 4 ∧ ((sA v 9).jobs.getD 0 zeroJ).pc = 5 := by
  rw [sA9 hv]; exact ⟨rfl, rfl⟩
theorem lookB {v : Int} (hv : 1 ≤ v ∧ v ≤ 256) (n : Nat) (hn : n ≤ 300) : (sB v (n + 2)).jobs.length = 4 ∧ ((sB v (n + 2)).jobs.getD 3 zeroJ).pc = 13 ∧ reportsV (sB v (n + 2)) = [] := by
  obtain ⟨x, hx, e⟩ := sB_wait hv n hn
  rw [e]; exact ⟨rfl, rfl, rfl⟩
theorem rowsB {v z : Int} (hv : 1 ≤ v ∧ v ≤ 256) : ∃ r, rowsV { jobC v z with steps := bump z } = [r] ∧ r.sum = v := by
  have hm : modW (0 + v) = v := by unfold modW; omega
  have h0 : ∀ raw, rowFromV 0 raw = zeroR := fun raw => by unfold rowFromV; rw [untagV_zero]
  have h1 : ∃ r, rowFromV 389 [modW (0 + v), 0, 0, 0, 0, 0, 0, 0] = r ∧ r.sum = v ∧ r.kind = 1 := by
    unfold rowFromV
    rw [← tagA, untag_tag okA (by decide), hm]
    refine ⟨_, rfl, ?_, rfl⟩
    show sumT [v, 0, 0, 0, 0, 0, 0, 0] 2 = v
    show modW (modW (0 + modW v) + modW 0) = v
    unfold modW
    omega
  obtain ⟨r, hr, hs, hk⟩ := h1
  refine ⟨r, ?_, hs⟩
  have e : rowsV { jobC v z with steps := bump z } = addV (addV (addV (addV [] (rowFromV 389 [modW (0 + v), 0, 0, 0, 0, 0, 0, 0])) (rowFromV 0 [0, 0, 0, 0, 0, 0, 0, 0])) (rowFromV 0 [0, 0, 0, 0, 0, 0, 0, 0])) (rowFromV 0 [0, 0, 0, 0, 0, 0, 0, 0]) := by
    have e1 : rowsN { jobC v z with steps := bump z } = 4 := by unfold rowsN jobC; simp
    unfold rowsV
    rw [e1]
    unfold rowsT
    rw [show List.range 4 = [0, 1, 2, 3] from rfl]
    simp only [List.foldl_cons, List.foldl_nil]
    rfl
  have hz : ∀ l, addV l zeroR = l := fun l => addV_no fun q => q.1 rfl
  have hq : quietV r = false := by
    unfold quietV
    rw [hs, beq_eq_false_iff_ne.2 (show v ≠ 0 by omega)]; rfl
  rw [e]
  simp only [h0, hz]
  rw [hr, addV_yes (by rw [hk]; decide) hq]
  rfl
theorem turnL_nat (n : Nat) : turnL n = (turnN n).map fun t : Nat => (t : Int) := by
  unfold turnL turnN
  rw [List.map_map]
  exact List.map_congr_left fun i _ => by show (i : Int) % 4 = ((i % 4 : Nat) : Int); omega
theorem endB {v : Int} (hv : 1 ≤ v ∧ v ≤ 256) (n : Nat) (hn : n ≤ 300) (zs : List Int) (hz : zs = turnL 4000) : ∃ r, reportsV (runS (sB v (n + 2)) zs) = [[r]] ∧ r.sum = v ∧ SmallS (runS (sB v (n + 2)) zs) := by
  obtain ⟨x, hx, e⟩ := sB_wait hv n hn
  have h := sB_ok hv (n + 2)
  obtain ⟨r, hr, hs⟩ := rowsB (z := 0) hv
  rw [e] at h ⊢
  have hnow : (stC0 v x (11 + (n : Int)) (logB v)).now = 11 + (n : Int) := rfl
  have hlen : (turnN 4000).length = 4000 := by unfold turnN; rw [List.length_map, List.length_range]
  rw [hz, turnL_nat, run_F h _ (fun t ht => by
    unfold turnN at ht
    obtain ⟨i, _, rfl⟩ := List.mem_map.1 ht
    exact Nat.mod_lt _ (by decide)) (by rw [hlen, hnow]; omega), show (4000 : Nat) = 4 * 1000 from rfl, turn_iter]
  obtain ⟨X, N, e1, e2, e3, z, hi, ⟨k1, k8⟩, ⟨k2, k3, k9⟩, k4, k5, k6⟩ := allC v x (11 + (n : Int)) (logB v)
  obtain ⟨r, hr, hs⟩ := rowsB (z := z) hv
  refine ⟨r, ?_, hs, ?_⟩
  rotate_left
  · rw [hi]
    refine small16 _ rfl rfl ?_ rfl ?_ (Nat.le_of_ble_eq_true rfl) (fun e he => ?_)
    · intro jj hx
      have hx' : jj ∈ ([zeroJ, zeroJ, zeroJ, zeroJ] : List J) := hx
      simp only [List.mem_cons, List.not_mem_nil, or_false] at hx'
      rcases hx' with rfl | rfl | rfl | rfl <;> exact ⟨rfl, rfl⟩
    · intro q hq
      have hq' : q ∈ ([[], [], [], []] : List (List O)) := hq
      simp only [List.mem_cons, List.not_mem_nil, or_false] at hq'
      rcases hq' with rfl | rfl | rfl | rfl <;> exact Nat.zero_le _
    · have he' : e ∈ logB v ++ [e1] ++ [e2] ++ [e3] := he
      rcases List.mem_append.1 he' with he' | he'
      · rcases List.mem_append.1 he' with he' | he'
        · rcases List.mem_append.1 he' with he' | he'
          · rw [(logB_fit hv e he').2]; exact Nat.zero_le _
          · rw [List.mem_singleton.1 he', k8]; exact Nat.zero_le _
        · rw [List.mem_singleton.1 he', k9]; exact Nat.zero_le _
      · rw [List.mem_singleton.1 he', k6, hr]; exact Nat.le_refl _
  rw [hi, ← hr, ← k6]
  show ((((logB v ++ [e1] ++ [e2] ++ [e3]).filter fun e => decide (e.kind = 3)).filter fun e => decide (e.op.kind = 3)).map E.rows) = _
  have hb : ((logB v).filter fun e => decide (e.kind = 3)).filter (fun e => decide (e.op.kind = 3)) = [] := rfl
  simp only [List.filter_append, List.map_append, hb]
  simp [k1, k2, k3, k4, k5]
end Go.Proofs.YtnlepnfdgdbkoaaGreatDoor
