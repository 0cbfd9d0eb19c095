/-
  The exact laws' marks on rows of Op, and the look whether they are held.
-/
import Derived.Test.YtcfdnfckilpppaaZa
namespace Go.Proofs.Ytcfdnfckilpppaa
open Go.RowKit M
set_option linter.unusedVariables false
set_option linter.unusedSimpArgs false
/-- A record marked from k on. -/
def markOp (k : Int) : O := ⟨k, markV (k + 1), k + 2, k + 3⟩
def marksOp (k : Int) (n : Nat) : List O := (List.range n).map fun j : Nat => markOp (k + 4 * (j : Int))
theorem marksOp_length (k : Int) (n : Nat) : (marksOp k n).length = n := by simp [marksOp]
theorem marksOp_getD (k : Int) (n j : Nat) (h : j < n) : (marksOp k n).getD j zeroO = markOp (k + 4 * j) := by simp [marksOp, List.getD_eq_getElem?_getD, h]
def OwnOpF (w : World) (base : Nat) (v : Value) (l : List O) : Prop := w.ownsRow base 53 4 v l.length (cellsF opCells l)
def MarkedOp (w : World) (base : Nat) (v : Value) (k : Int) (n : Nat) (e : Ending) (w' : World) : Prop := e = .returned (.int .i64 (k + 4 * n)) ∧ OwnOpF w' base v (marksOp k n) ∧ w.grownBy w' v.ownBlock
set_option maxRecDepth 100000 in
set_option maxHeartbeats 8000000 in
theorem markOpS_any (w : World) (base : Nat) (v : Value) (l : List O) (k : Int) (h : OwnOpF w base v l) (hl : l.length ≤ 1048576) (hk0 : 1 ≤ k) (hk1 : k ≤ 1000000000000) :
    Calls Try.prog 52 #[v, .int .i64 k] w (MarkedOp w base v k l.length) := by
  have h' := h
  rcases h.2 with ⟨rfl, h0⟩ | ⟨g, cap, cur, rfl, _, _, _, _, _, _⟩
  · have HO := Lib.hid h'
    have hl0 : l = [] := List.eq_nil_of_length_eq_zero h0
    subst hl0
    clear h h' h0
    go_enter Try.func52, Try.ntmps52
    go_wp2_with fail
    go_loopw [1, 5] (fun c i wr => i = .int .i64 0 ∧ c = .int .i64 k ∧ wr = w) (fun _ i _ => 0)
    case atStart => exact ⟨rfl, rfl, rfl⟩
    case round =>
      obtain ⟨rfl, rfl, rfl⟩ := hrel
      go_wp2_with fail
      go_ret
      exact ⟨ret_i (by simp), HO.out, World.grownBy.refl _ _⟩
  · have HST := Lib.hid (fun j (hj : j < l.length) => mpartF_set (fun j : Nat => markOp (k + 4 * (j : Int))) l j hj)
    have HSC := Lib.hid (fun j (hj : j < l.length) => cellsF_set (c := opCells) sizeOp (mpartF (fun j : Nat => markOp (k + 4 * (j : Int))) l j) j (by rw [mpartF_length _ _ _ (Nat.le_of_lt hj)]; exact hj) (markOp (k + 4 * (j : Int))))
    have HFI := Lib.hid (show mpartF (fun j : Nat => markOp (k + 4 * (j : Int))) l l.length = marksOp k l.length from mpartF_all _ _)
    have HFL := Lib.hid (marksOp_length k l.length)
    have HZ := Lib.hid (show w.ownsRow base 53 4 (.slice (some ⟨g, 0, none⟩) l.length cap) l.length (cellsF opCells (mpartF (fun j : Nat => markOp (k + 4 * (j : Int))) l 0)) from by rw [mpartF_zero]; exact h')
    generalize l.length = n at *
    have hcap : n ≤ 9223372036854775807 := by omega
    clear h h'
    go_enter Try.func52, Try.ntmps52
    go_wp2_with fail
    go_loopw [1, 5] (fun c i wr => ∃ j : Nat, j ≤ n ∧ i = .int .i64 j ∧ c = .int .i64 (k + 4 * j) ∧ wr.ownsRow base 53 4 (.slice (some ⟨g, 0, none⟩) n cap) n (cellsF opCells (mpartF (fun j : Nat => markOp (k + 4 * (j : Int))) l j)) ∧ w.grownBy wr (some g)) (fun _ i _ => n - (intOf i).toNat)
    case atStart => exact ⟨0, Nat.zero_le _, rfl, by simp, HZ.out, World.grownBy.refl _ _⟩
    case round =>
      obtain ⟨j, hj, rfl, rfl, ho, hg⟩ := hrel
      clear HZ
      by_cases hlt : j < n
      · have hj0 : j * 4 < n * 4 := by omega
        have hsc := HSC.out j hlt
        rw [HST.out j hlt] at hsc
        generalize cellsF opCells (mpartF (fun j : Nat => markOp (k + 4 * (j : Int))) l j) = cs at *
        have b0 : 1 ≤ k + 4 * (j : Int) := by omega
        have b1 : k + 4 * (j : Int) ≤ 1000011000000 := by omega
        generalize hkk : k + 4 * (j : Int) = kk at *
        have HKK := Lib.hid hkk
        clear hkk
        have HSC2 := Lib.hid hsc
        clear hsc
        have hjn : (j : Int) < (n : Int) := by omega
        obtain ⟨z0, c0⟩ := ownsRow_some ho (j * 4) (by omega)
        have f0 := World.ownsRow.frozenAt ho (j * 4)
        have HO := Lib.hid ho
        have HG := Lib.hid hg
        clear ho hg
        go_upto_region 5 with fail
        refine wp_gen (fun w' => w'.ownsRow base 53 4 (.slice (some ⟨g, 0, none⟩) n cap) n ((cs).set (j * 4) (.int .i64 (kk))) ∧ w.grownBy w' (some g)) ⟨(World.ownsRow.stored HO.out (j * 4) _).1, grownF HG.out (World.ownsRow.stored HO.out (j * 4) _).2⟩ ?_
        clear HO HG
        clear z0 c0 f0
        rintro w10 ⟨ho, hg⟩
        have HM1 := fun W => Lib.hid (markText_any (kk + 1) W (by omega) (by omega))
        obtain ⟨z1, c1⟩ := ownsRow_some ho (j * 4 + 1) (by omega)
        have f1 := World.ownsRow.frozenAt ho (j * 4 + 1)
        have HO := Lib.hid ho
        have HG := Lib.hid hg
        clear ho hg
        go_upto_region 7 with (go_at_call 39; (with_reducible refine Calls.mono (Hid.out (HM1 _)) ?_); rintro e w5 ⟨rfl, hb5⟩; have HB5 := Lib.hid hb5; clear hb5; have c1 := (HB5.out.cell (p := ⟨g, j * 4 + 1, none⟩) (World.ownsRow.lt HO.out g rfl).2).trans c1; have f1 := World.ownsRow.frozenAt (World.ownsRow.kept HO.out (row := none) ⟨HB5.out.os, HB5.out.tape, HB5.out.output, HB5.out.size, fun i hi _ => HB5.out.block i hi⟩ (Or.inr (by intro h; cases h))) (j * 4 + 1))
        have ho5 := World.ownsRow.kept HO.out (row := none) ⟨HB5.out.os, HB5.out.tape, HB5.out.output, HB5.out.size, fun i hi _ => HB5.out.block i hi⟩ (Or.inr (by intro h; cases h))
        refine wp_gen (fun w' => w'.ownsRow base 53 4 (.slice (some ⟨g, 0, none⟩) n cap) n (((cs).set (j * 4) (.int .i64 (kk))).set (j * 4 + 1) (.string (markV (kk + 1)))) ∧ w.grownBy w' (some g)) ⟨(World.ownsRow.stored ho5 (j * 4 + 1) _).1, grownF (grown_any HG.out HB5.out) (World.ownsRow.stored ho5 (j * 4 + 1) _).2⟩ ?_
        clear ho5 HB5 HO HG HM1
        rintro w11 ⟨ho, hg⟩
        obtain ⟨z2, c2⟩ := ownsRow_some ho (j * 4 + 2) (by omega)
        have f2 := World.ownsRow.frozenAt ho (j * 4 + 2)
        have HO := Lib.hid ho
        have HG := Lib.hid hg
        clear ho hg
        go_upto_region 9 with fail
        refine wp_gen (fun w' => w'.ownsRow base 53 4 (.slice (some ⟨g, 0, none⟩) n cap) n ((((cs).set (j * 4) (.int .i64 (kk))).set (j * 4 + 1) (.string (markV (kk + 1)))).set (j * 4 + 2) (.int .i64 (kk + 1 + 1))) ∧ w.grownBy w' (some g)) ⟨(World.ownsRow.stored HO.out (j * 4 + 2) _).1, grownF HG.out (World.ownsRow.stored HO.out (j * 4 + 2) _).2⟩ ?_
        clear HO HG
        clear z2 c2 f2
        rintro w12 ⟨ho, hg⟩
        obtain ⟨z3, c3⟩ := ownsRow_some ho (j * 4 + 3) (by omega)
        have f3 := World.ownsRow.frozenAt ho (j * 4 + 3)
        have HO := Lib.hid ho
        have HG := Lib.hid hg
        clear ho hg
        go_upto_region 11 with fail
        refine wp_gen (fun w' => w'.ownsRow base 53 4 (.slice (some ⟨g, 0, none⟩) n cap) n (((((cs).set (j * 4) (.int .i64 (kk))).set (j * 4 + 1) (.string (markV (kk + 1)))).set (j * 4 + 2) (.int .i64 (kk + 1 + 1))).set (j * 4 + 3) (.int .i64 (kk + 1 + 1 + 1))) ∧ w.grownBy w' (some g)) ⟨(World.ownsRow.stored HO.out (j * 4 + 3) _).1, grownF HG.out (World.ownsRow.stored HO.out (j * 4 + 3) _).2⟩ ?_
        clear HO HG
        clear z3 c3 f3
        rintro w13 ⟨ho, hg⟩
        have HO := Lib.hid ho
        have HG := Lib.hid hg
        clear ho hg
        go_wp2_with fail
        go_roundw
        case rel => exact ⟨j + 1, by omega, by go_num, by rw [← HKK.out]; go_num, by have := HO.out; simp only [Int.add_assoc, Int.reduceAdd] at this; rw [← HSC2.out]; exact this, HG.out⟩
        case measure => simp [intOf]; omega
      · have hjn : j = n := by omega
        subst hjn
        have HO := Lib.hid ho
        have HG := Lib.hid hg
        clear ho hg
        go_wp2_with fail
        go_ret
        refine ⟨rfl, ?_, HG.out⟩
        unfold OwnOpF
        rw [HFL.out, ← HFI.out]
        exact HO.out
end Go.Proofs.Ytcfdnfckilpppaa
