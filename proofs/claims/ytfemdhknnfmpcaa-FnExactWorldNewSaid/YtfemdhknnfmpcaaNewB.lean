/-
  Chapter 10, WorldNew (what both have in common): a world of its own. It turns nothing that was there.
-/
import Derived.Test.YtfemdhknnfmpcaaWorK
import Derived.Test.YtfemdhknnfmpcaaZa
import Derived.OwnWalk
import Derived.Deep.RegionHeld3
namespace Go.Proofs.Ytfemdhknnfmpcaa
open Go.RowKit M
set_option linter.unusedVariables false
set_option linter.unusedSimpArgs false
/-- 'make' of so many elements, one operation. -/
theorem oper_make {P : Program} (w : World) {o : Oper} {a : Act} {K : Act → World → Prop} {Q : Exit → Act → World → Prop}
    (l c : Operand) (t : TypeId) (hop : o.op = Op.makeSlice t l c)
    (base : Nat) (e : TypeId) (i : TypeInfo) (z : Value) (size : Nat) (h1 : P.underlying t = some (.slice e)) (h2 : P.info? e = some i) (h3 : i.zero = some z) (h4 : i.size = size)
    (kl kc : IntKind) (L C : Int) (n : Nat) (hl : a.eval l = .int kl L) (hc : a.eval c = .int kc C) (hL : L = (n : Int)) (hC : C = (n : Int)) (b2 : i.bytes * n ≤ 281474976710656) (b3 : n ≤ maxLen) (b4 : base ≤ w.heap.size)
    (hK : ∀ w', w'.ownsRow base e size (.slice (some ⟨w.heap.size, 0, none⟩) n n) n (madeCells z.cells (n * size)).toList → w.grownBy w' none → K (a.put o.dst (.slice (some ⟨w.heap.size, 0, none⟩) n n)) w') :
    o.wp P a w K Q := by
  obtain ⟨w', hrun, r1, r2⟩ := run_make_full (P := P) w base t e i z size h1 h2 h3 h4 kl kc n b2 b3 b4
  subst hL
  subst hC
  unfold Oper.wp
  simp [execOp, hop, hl, hc, hrun, Result.andThen]
  exact hK w' r1 r2
theorem todoOk_small {ls : List (List O)} (h : todoOkV ls = true) : ls.length = 4 ∧ ∀ j, j < ls.length → (ls.getD j []).length ≤ 1000 := by
  unfold todoOkV at h
  simp only [Bool.and_eq_true, decide_eq_true_eq, List.all_eq_true, List.mem_range] at h
  refine ⟨h.1, fun j hj => ?_⟩
  have h2 := h.2 j hj
  unfold queueOkV at h2
  simp only [Bool.and_eq_true, decide_eq_true_eq] at h2
  omega
theorem info_intN : (Try.prog.info? 3).map (fun i => (i.zero, i.size, i.bytes)) = some (some (.int .i64 0), 1, 8) := by kernel_rfl
def NewW (w : World) (s : S) (e : Ending) (w' : World) : Prop := ∃ vc vj vt vl, e = .returned (.agg (worVals s vc vj vt vl)) ∧ WorP w' w.heap.size w'.heap.size s vc vj vt vl ∧ Below w.heap.size w w'
theorem nil_log {w : World} {B : Nat} : OwnY 99 13 evDat w B B (.slice none 0 0) [] :=
  ⟨[], trivial, Heap.one (r := ⟨.slice none 0 0, 99, 13, 0, []⟩) ⟨rfl, .inl ⟨rfl, rfl⟩⟩, fun r hr k hk => by rw [List.mem_singleton.1 hr] at hk; cases hk⟩
theorem nil_jobs {w : World} {B : Nat} : OwnY 42 18 jobDat w B B (.slice none 0 0) [] :=
  ⟨[], trivial, Heap.one (r := ⟨.slice none 0 0, 42, 18, 0, []⟩) ⟨rfl, .inl ⟨rfl, rfl⟩⟩, fun r hr k hk => by rw [List.mem_singleton.1 hr] at hk; cases hk⟩
theorem nil_cells {w : World} {B : Nat} : HeapE w B B [intRw (.slice none 0 0) []] :=
  ⟨Heap.one (r := intRw (.slice none 0 0) []) ⟨rfl, .inl ⟨rfl, rfl⟩⟩, fun r hr k hk => by rw [List.mem_singleton.1 hr] at hk; cases hk⟩
theorem nil_todo {w : World} {B : Nat} : OwnDE 73 26 4 opCells w B B (.slice none 0 0) [] :=
  ⟨[], rfl, Heap.one (r := ⟨.slice none 0 0, 73, 1, 0, []⟩) ⟨rfl, .inl ⟨rfl, rfl⟩⟩, fun r hr k hk => by rw [List.mem_singleton.1 hr] at hk; cases hk⟩
theorem zero_wor {w : World} {B E : Nat} (h : B ≤ E) : WorP w B E zeroS (.slice none 0 0) (.slice none 0 0) (.slice none 0 0) (.slice none 0 0) :=
  ⟨B, B, B, B, B, B, B, B, ⟨⟨Nat.le_refl _, Nat.le_refl _, Nat.le_refl _, Nat.le_refl _⟩, ⟨h, h, h, h⟩, .inl (Nat.le_refl _), .inl (Nat.le_refl _), .inl (Nat.le_refl _), .inl (Nat.le_refl _), .inl (Nat.le_refl _), .inl (Nat.le_refl _)⟩, ⟨nil_cells, nil_jobs, nil_todo, nil_log⟩⟩
theorem made_cells {w : World} {base g : Nat} (h : w.ownsRow base 3 1 (.slice (some ⟨g, 0, none⟩) 71 71) 71 (madeCells (Value.int .i64 0).cells (71 * 1)).toList) : HeapE w base w.heap.size [intRw (.slice (some ⟨g, 0, none⟩) 71 71) (List.replicate 71 0)] := by
  have ho := OwnI.made h
  refine HeapE.made (Heap.one (r := intRw _ _) ?_)
  exact ho.1
theorem made_jobs {w : World} {base g : Nat} (h : w.ownsRow base 42 18 (.slice (some ⟨g, 0, none⟩) 4 4) 4 (madeCells (Value.agg #[.bool false, .int .i64 0, .string ⟨#[]⟩, .int .i64 0, .int .i64 0, .int .i64 0, .int .i64 0, .int .i64 0, .int .i64 0, .int .i64 0, .int .i64 0, .int .i64 0, .int .i64 0, .int .i64 0, .int .i64 0, .int .i64 0, .slice none 0 0, .slice none 0 0]).cells (4 * 18)).toList) : OwnY 42 18 jobDat w base w.heap.size (.slice (some ⟨g, 0, none⟩) 4 4) (List.replicate 4 zeroJ) :=
  OwnX.made h rfl (by decide) jobZero_ok.1 jobZero_ok.2
end Go.Proofs.Ytfemdhknnfmpcaa
