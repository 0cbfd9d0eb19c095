/-
  Chapter 10's laws on a job: the argument opened; what its copy reads as.
-/
import Derived.Test.YtfemdhknnfmpcaaOpen
import Derived.Test.YtfemdhknnfmpcaaSysL
namespace Go.Proofs.Ytfemdhknnfmpcaa
open Go.ChangeShapes Go.WideShapes Go.Deep Go.RowKit M
set_option linter.unusedVariables false
theorem own_ints {w : World} {B : Nat} {v : Value} {zs : List Int} (ho : (⟨v, 3, 1, zs.length, zs.map (Value.int .i64)⟩ : Rw).own w B) : IntsArg w v zs := by
  have h' : w.ownsRow B 3 1 v zs.length (zs.map (Value.int .i64)) := ho
  rcases h'.2 with ⟨rfl, h0⟩ | ⟨g, cap, cur, rfl, hb, hg, hn, hm, hc, ht⟩
  · have e : zs = [] := List.length_eq_zero_iff.1 h0
    subst e; exact IntsArg.nil w
  · refine ⟨_, cap, rfl, hn, hm, fun _ => ⟨g, 0, rfl, (World.ownsRow.lt h' g rfl).2, fun j hj => ?_⟩⟩
    rw [Nat.zero_add, World.ownsRow.cellAt h' j (by omega), List.getElem?_map, List.getElem?_eq_getElem hj, List.getD_eq_getElem?_getD, List.getElem?_eq_getElem hj]
    rfl
theorem heap_job {w : World} {B : Nat} {r : J} {vk vr : Value} (h : Heap w B [⟨vk, 3, 1, r.keys.length, (r.keys.map (Value.int .i64))⟩, ⟨vr, 3, 1, r.raw.length, (r.raw.map (Value.int .i64))⟩]) : jobIn w r vk vr :=
  ⟨own_ints (h.own _ List.mem_cons_self), own_ints (h.own _ (List.mem_cons_of_mem _ List.mem_cons_self))⟩
section
variable {H : Type} {enc : TypeId × Value → H} {w : World} {base : Nat} {spare : Nat → Bool} {held : Bool} {fuel : Nat} {x : DataW H × List MemPlace} {c : Value}
set_option maxRecDepth 100000 in
theorem rd_job2 {cs : List Value} (hsz : cs.length = 18) (h : DataW.trod enc Try.prog w base spare held fuel 38 cs = some x) : ∃ (r : J) (vk vr : Value), cs = (jobVals r vk vr).toList ∧ jobIn w r vk vr ∧ r.Fit := by
  obtain ⟨r, hr, hf⟩ := rd_job hsz h
  clear h
  match cs, hsz with
  | [c0, c1, c2, c3, c4, c5, c6, c7, c8, c9, c10, c11, c12, c13, c14, c15, c16, c17], _ =>
    obtain ⟨_, q0, rfl⟩ := hr 0 _ rfl
    injection q0 with q0
    subst q0
    obtain ⟨_, q1, rfl⟩ := hr 1 _ rfl
    injection q1 with q1
    subst q1
    obtain ⟨_, q2, rfl⟩ := hr 2 _ rfl
    injection q2 with q2
    subst q2
    obtain ⟨_, q3, rfl⟩ := hr 3 _ rfl
    injection q3 with q3
    subst q3
    obtain ⟨_, q4, rfl⟩ := hr 4 _ rfl
    injection q4 with q4
    subst q4
    obtain ⟨_, q5, rfl⟩ := hr 5 _ rfl
    injection q5 with q5
    subst q5
    obtain ⟨_, q6, rfl⟩ := hr 6 _ rfl
    injection q6 with q6
    subst q6
    obtain ⟨_, q7, rfl⟩ := hr 7 _ rfl
    injection q7 with q7
    subst q7
    obtain ⟨_, q8, rfl⟩ := hr 8 _ rfl
    injection q8 with q8
    subst q8
    obtain ⟨_, q9, rfl⟩ := hr 9 _ rfl
    injection q9 with q9
    subst q9
    obtain ⟨_, q10, rfl⟩ := hr 10 _ rfl
    injection q10 with q10
    subst q10
    obtain ⟨_, q11, rfl⟩ := hr 11 _ rfl
    injection q11 with q11
    subst q11
    obtain ⟨_, q12, rfl⟩ := hr 12 _ rfl
    injection q12 with q12
    subst q12
    obtain ⟨_, q13, rfl⟩ := hr 13 _ rfl
    injection q13 with q13
    subst q13
    obtain ⟨_, q14, rfl⟩ := hr 14 _ rfl
    injection q14 with q14
    subst q14
    obtain ⟨_, q15, rfl⟩ := hr 15 _ rfl
    injection q15 with q15
    subst q15
    obtain ⟨vk, q16, r16⟩ := hr 16 _ rfl
    obtain ⟨vr, q17, r17⟩ := hr 17 _ rfl
    injection q16 with q16
    injection q17 with q17
    subst q16
    subst q17
    exact ⟨r, c16, c17, rfl, ⟨reads_ints r16, reads_ints r17⟩, hf⟩
end
section
variable {H : Type} {enc : TypeId × Value → H} {w : World} {base : Nat} {spare : Nat → Bool} {held : Bool} {r : Reach} {b0 : Nat} {v : Value} {d : DataW H} {p : List MemPlace}
set_option maxRecDepth 100000 in
theorem open_job (hv : Value.okWide Try.prog w r b0 38 v) (h : DataW.Trod enc Try.prog w base spare held 38 v d p) : ∃ (z : J) (vk vr : Value), v = .agg (jobVals z vk vr) ∧ jobIn w z vk vr ∧ z.Fit := by
  obtain ⟨cs, rfl, hsz⟩ := okWide_struct Try.underlying38 hv
  obtain ⟨fuel, hf⟩ := h
  have hC : Try.prog.cellsOf 38 = 18 := by kernel_rfl
  rw [hC] at hsz
  obtain ⟨z, vk, vr, hx, hin, hfit⟩ := rd_job2 (cs := cs.toList) (by simpa using hsz) hf
  obtain rfl : cs = jobVals z vk vr := Array.ext' hx
  exact ⟨z, vk, vr, rfl, hin, hfit⟩
end
/-- What a job's law keeps through its last statement: the two boxes, the argument, the copy that was worked on. -/
structure LawJ (w0 : World) (gw gx : Nat) (s : J) (vk vr xk xr : Value) (w : World) : Prop where
  g : Blk w gw 38 (jobVals s vk vr)
  y : Blk w gx 42 (jobVals s xk xr)
  a : jobIn w s vk vr
  x : jobIn w s xk xr
  b : Below w0.heap.size w0 w
theorem LawJ.next {w0 w w' : World} {gw gx : Nat} {s : J} {vk vr xk xr : Value} (h : LawJ w0 gw gx s vk vr xk xr w) (hb : Below w.heap.size w w') : LawJ w0 gw gx s vk vr xk xr w' :=
  ⟨h.g.below hb, h.y.below hb, jobIn_below h.a hb, jobIn_below h.x hb, h.b.trans (hb.mono h.b.size)⟩
/-- The whole block, as a stretch of cells. -/
theorem Blk.range {w : World} {g : Nat} {t : TypeId} {cs : Array Value} (h : Blk w g t cs) : w.rangeAt g 0 cs.toList := fun j v hv => by
  rw [Nat.zero_add, h.get j]
  rw [Array.getElem?_toList] at hv
  exact hv
end Go.Proofs.Ytfemdhknnfmpcaa
