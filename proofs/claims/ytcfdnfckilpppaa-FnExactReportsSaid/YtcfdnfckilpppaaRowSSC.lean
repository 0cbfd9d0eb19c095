/-
  Rows of rows: read, and compared by the exact laws' helper.
-/
import Derived.Test.YtcfdnfckilpppaaRowSSK
import Derived.Test.YtcfdnfckilpppaaRwsC
import Derived.Test.YtcfdnfckilpppaaZa
namespace Go.Proofs.Ytcfdnfckilpppaa
open Go.RowKit M
set_option linter.unusedVariables false
set_option linter.unusedSimpArgs false
/-- The slice value v reads as rows of rows. -/
def ArgRS (w : World) (v : Value) (ls : List (List R)) : Prop :=
  ∃ A cap, v = .slice A ls.length cap ∧ ls.length ≤ cap ∧ cap ≤ maxLen ∧ (0 < ls.length → ∃ b off, A = some ⟨b, off, none⟩ ∧ b < w.heap.size ∧ ∀ j, j < ls.length → ∃ u, w.cell? ⟨b, off + j, none⟩ = some u ∧ RowsArg w u (ls.getD j []))
theorem ArgRS.below {w w' : World} {v : Value} {ls : List (List R)} (h : ArgRS w v ls) (hb : Below w.heap.size w w') : ArgRS w' v ls := by
  obtain ⟨A, cap, e, h1, h2, h3⟩ := h
  refine ⟨A, cap, e, h1, h2, fun hp => ?_⟩
  obtain ⟨b, off, ea, h4, h5⟩ := h3 hp
  exact ⟨b, off, ea, Nat.lt_of_lt_of_le h4 hb.size, fun j hj => by
    obtain ⟨u, hu, hr⟩ := h5 j hj
    exact ⟨u, (hb.cell (p := ⟨b, off + j, none⟩) h4).trans hu, hr.below hb⟩⟩
def OwnRS (w : World) (B E : Nat) (v : Value) (ls : List (List R)) : Prop := OwnDE 54 62 10 rowCells w B E v ls
theorem OwnRS.below {w w' : World} {B E : Nat} {v : Value} {ls : List (List R)} (h : OwnRS w B E v ls) (hb : Below w.heap.size w w') : OwnRS w' B E v ls := OwnDE.below h hb
theorem OwnRS.far {w w' : World} {B E B' E' : Nat} {v : Value} {ls : List (List R)} (h : OwnRS w B E v ls) (hc : Chg (Within B' E') w w') (hd : E ≤ B' ∨ E' ≤ B) : OwnRS w' B E v ls := OwnDE.far h hc hd
theorem OwnRS.arg {w : World} {B E : Nat} {v : Value} {ls : List (List R)} (h : OwnRS w B E v ls) : ArgRS w v ls := by
  obtain ⟨vs, hl, hh⟩ := h
  have ho := hh.1.own ⟨v, 54, 1, ls.length, vs⟩ (by simp)
  have ho' := ho
  rcases ho.2 with ⟨e, h0⟩ | ⟨g, cap, cur, e, hb, hg, hn, hm, hc, ht⟩
  · have e : v = .slice none 0 0 := e
    have h00 : ls.length = 0 := h0
    subst e
    exact ⟨none, 0, by rw [h00], by omega, Nat.zero_le _, fun h => by omega⟩
  · have e : v = .slice (some ⟨g, 0, none⟩) ls.length cap := e
    subst e
    refine ⟨_, cap, rfl, hn, hm, fun _ => ⟨g, 0, rfl, (World.ownsRow.lt ho' g rfl).2, fun j hj => ⟨vs.getD j undef, ?_, ?_⟩⟩⟩
    · have := World.ownsRow.cellAt (w := w) (size := 1) (xs := vs) ho' j (show j < ls.length * 1 by omega)
      rw [Nat.zero_add, this, List.getD_eq_getElem?_getD, List.getElem?_eq_getElem (by omega)]
      rfl
    · exact OwnR.arg (base := B) (show OwnR w B (vs.getD j undef) (ls.getD j []) from hh.1.own _ (List.mem_cons_of_mem _ (inner_at hl j hj undef)))
set_option maxRecDepth 100000 in
set_option maxHeartbeats 1600000 in
theorem eqRowSS_same (w : World) (v u : Value) (ls : List (List R)) (h : ArgRS w v ls) (k : ArgRS w u ls) : Calls Try.prog 21 #[v, u] w (Gives (.bool true) w) := by
  obtain ⟨A, cap, rfl, h1, h2, h3⟩ := h
  obtain ⟨A', cap', rfl, k1, k2, k3⟩ := k
  generalize hn : ls.length = n at *
  clear hn
  unfold maxLen at h2 k2
  have H4 := Lib.hid h3
  have K4 := Lib.hid k3
  clear h3 k3
  go_enter Try.func21, Try.ntmps21
  go_wp2_with fail
  go_loopw [5] (fun i wr => ∃ j : Nat, j ≤ n ∧ i = .int .i64 j ∧ Below w.heap.size w wr) (fun i _ => n - (intOf i).toNat)
  case atStart => exact ⟨0, Nat.zero_le _, rfl, Below.refl _ _⟩
  case round =>
    obtain ⟨j, hj, rfl, hbl⟩ := hrel
    by_cases hlt : j < n
    · obtain ⟨b, off, rfl, hb, hc⟩ := H4.out (by omega)
      obtain ⟨b', off', rfl, hb', hc'⟩ := K4.out (by omega)
      obtain ⟨p, hp, ha⟩ := hc j hlt
      obtain ⟨p', hp', ha'⟩ := hc' j hlt
      have HR := fun W h k => Lib.hid (eqRowS_same W p p' (ls.getD j []) h k)
      have HA := Lib.hid ha
      have HA' := Lib.hid ha'
      have HP := Lib.hid hp
      have HP' := Lib.hid hp'
      have HS := Lib.hid (show Below w.heap.size w wr.drew from hbl.trans (below_drew _ _))
      obtain ⟨B1, c1, rfl, _, _, _⟩ := ha
      obtain ⟨B2, c2, rfl, _, _, _⟩ := ha'
      clear hc hc' hbl hp hp'
      generalize ls.getD j [] = q at *
      generalize q.length = m0 at *
      have hjn : (j : Int) < (n : Int) := by omega
      go_wp2_with fail
      have HCL := (⟨HS.out⟩ : HoldsC (fun W => Below w.heap.size w W) _)
      have hall : ∀ p : Prop, (∀ W, HoldsC (fun W => Below w.heap.size w W) W → p) ↔ p := fun p => ⟨fun h => h _ HCL, fun h _ _ => h⟩
      refine wp_region_wq (C := HoldsC (fun W => Below w.heap.size w W)) (by kernel_rfl) (by kernel_rfl) HCL ?_
      repeat (refine WQ.step (fun K hK => ?_); go_simp; first | (refine hK _ ?_; clear hK K) | (apply Exists.intro; refine ⟨fun W hW => ?_, hK _ ?_⟩; (focus (first | (go_at_call 44; (with_reducible refine Calls.mono (Hid.out (HR _ (HA.out.below hW.out) (HA'.out.below hW.out))) ?_); rintro e w' ⟨rfl, hb'⟩; exact ⟨rfl, ⟨hW.out.trans (hb'.mono hW.out.size)⟩⟩) | exact rfl | (obtain hB := hW.out; have y0 := (hB.cell (p := ⟨b, off + j, none⟩) hb).trans HP.out; have y1 := (hB.cell (p := ⟨b', off' + j, none⟩) hb').trans HP'.out; go_simp; rfl))); clear hK K))
      refine WQ.nil ?_
      intro W hW
      obtain hB := hW.out; have y0 := (hB.cell (p := ⟨b, off + j, none⟩) hb).trans HP.out; have y1 := (hB.cell (p := ⟨b', off' + j, none⟩) hb').trans HP'.out
      clear hall HCL
      have HB := Lib.hid hW.out
      clear hW
      go_wp2_with fail
      go_roundw
      case rel => exact ⟨j + 1, by omega, by go_num, HB.out⟩
      case measure => simp [intOf]; omega
    · have HB := Lib.hid hbl
      clear hbl
      go_wp2_with fail
      go_ret
      exact ⟨rfl, HB.out⟩
end Go.Proofs.Ytcfdnfckilpppaa
