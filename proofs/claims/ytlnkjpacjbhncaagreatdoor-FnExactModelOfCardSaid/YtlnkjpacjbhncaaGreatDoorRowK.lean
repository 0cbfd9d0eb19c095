/-
  The exact laws' marks on rows of Row, and the look whether they are held.
-/
import Derived.Test.YtlnkjpacjbhncaaGreatDoorZb
import Derived.Test.YtlnkjpacjbhncaaGreatDoorZa
namespace Go.Proofs.YtlnkjpacjbhncaaGreatDoor
open Go.RowKit M
set_option linter.unusedVariables false
set_option linter.unusedSimpArgs false
/-- A record marked from k on. -/
def markRow (k : Int) : R := ⟨markV (k), k + 1, k + 2, ((k + 3) % 3 == 0), k + 4, k + 5, k + 6, k + 7, k + 8, k + 9⟩
def marksRow (k : Int) (n : Nat) : List R := (List.range n).map fun j : Nat => markRow (k + 10 * (j : Int))
theorem marksRow_length (k : Int) (n : Nat) : (marksRow k n).length = n := by simp [marksRow]
theorem marksRow_getD (k : Int) (n j : Nat) (h : j < n) : (marksRow k n).getD j zeroR = markRow (k + 10 * j) := by simp [marksRow, List.getD_eq_getElem?_getD, h]
theorem sizeRow (r : R) : (rowCells r).size = 10 := rfl
def OwnRowF (w : World) (base : Nat) (v : Value) (l : List R) : Prop := w.ownsRow base 60 10 v l.length (cellsF rowCells l)
def MarkedRow (w : World) (base : Nat) (v : Value) (k : Int) (n : Nat) (e : Ending) (w' : World) : Prop := e = .returned (.int .i64 (k + 10 * n)) ∧ OwnRowF w' base v (marksRow k n) ∧ w.grownBy w' v.ownBlock
set_option maxRecDepth 100000 in
set_option maxHeartbeats 8000000 in
theorem markRowS_any (w : World) (base : Nat) (v : Value) (l : List R) (k : Int) (h : OwnRowF w base v l) (hl : l.length ≤ 1048576) (hk0 : 1 ≤ k) (hk1 : k ≤ 1000000000000) :
    Calls Tryz.prog 27 #[v, .int .i64 k] w (MarkedRow w base v k l.length) := by
  have h' := h
  rcases h.2 with ⟨rfl, h0⟩ | ⟨g, cap, cur, rfl, _, _, _, _, _, _⟩
  · have HO := Lib.hid h'
    have hl0 : l = [] := List.eq_nil_of_length_eq_zero h0
    subst hl0
    clear h h' h0
    go_enter Tryz.func27, Tryz.ntmps27
    go_wp2_with fail
    go_loopw [1, 5] (fun c i wr => i = .int .i64 0 ∧ c = .int .i64 k ∧ wr = w) (fun _ i _ => 0)
    case atStart => exact ⟨rfl, rfl, rfl⟩
    case round =>
      obtain ⟨rfl, rfl, rfl⟩ := hrel
      go_wp2_with fail
      go_ret
      exact ⟨ret_i (by simp), HO.out, World.grownBy.refl _ _⟩
  · have HST := Lib.hid (fun j (hj : j < l.length) => mpartF_set (fun j : Nat => markRow (k + 10 * (j : Int))) l j hj)
    have HSC := Lib.hid (fun j (hj : j < l.length) => cellsF_set (c := rowCells) sizeRow (mpartF (fun j : Nat => markRow (k + 10 * (j : Int))) l j) j (by rw [mpartF_length _ _ _ (Nat.le_of_lt hj)]; exact hj) (markRow (k + 10 * (j : Int))))
    have HFI := Lib.hid (show mpartF (fun j : Nat => markRow (k + 10 * (j : Int))) l l.length = marksRow k l.length from mpartF_all _ _)
    have HFL := Lib.hid (marksRow_length k l.length)
    have HZ := Lib.hid (show w.ownsRow base 60 10 (.slice (some ⟨g, 0, none⟩) l.length cap) l.length (cellsF rowCells (mpartF (fun j : Nat => markRow (k + 10 * (j : Int))) l 0)) from by rw [mpartF_zero]; exact h')
    generalize l.length = n at *
    have hcap : n ≤ 9223372036854775807 := by omega
    clear h h'
    go_enter Tryz.func27, Tryz.ntmps27
    go_wp2_with fail
    go_loopw [1, 5] (fun c i wr => ∃ j : Nat, j ≤ n ∧ i = .int .i64 j ∧ c = .int .i64 (k + 10 * j) ∧ wr.ownsRow base 60 10 (.slice (some ⟨g, 0, none⟩) n cap) n (cellsF rowCells (mpartF (fun j : Nat => markRow (k + 10 * (j : Int))) l j)) ∧ w.grownBy wr (some g)) (fun _ i _ => n - (intOf i).toNat)
    case atStart => exact ⟨0, Nat.zero_le _, rfl, by simp, HZ.out, World.grownBy.refl _ _⟩
    case round =>
      obtain ⟨j, hj, rfl, rfl, ho, hg⟩ := hrel
      clear HZ
      by_cases hlt : j < n
      · have hj0 : j * 10 < n * 10 := by omega
        have hsc := HSC.out j hlt
        rw [HST.out j hlt] at hsc
        generalize cellsF rowCells (mpartF (fun j : Nat => markRow (k + 10 * (j : Int))) l j) = cs at *
        have b0 : 1 ≤ k + 10 * (j : Int) := by omega
        have b1 : k + 10 * (j : Int) ≤ 1000011000000 := by omega
        generalize hkk : k + 10 * (j : Int) = kk at *
        have HKK := Lib.hid hkk
        clear hkk
        have HSC2 := Lib.hid hsc
        clear hsc
        have hjn : (j : Int) < (n : Int) := by omega
        have HM0 := fun W => Lib.hid (markText_any (kk) W (by omega) (by omega))
        obtain ⟨z0, c0⟩ := ownsRow_some ho (j * 10) (by omega)
        have f0 := World.ownsRow.frozenAt ho (j * 10)
        have HO := Lib.hid ho
        have HG := Lib.hid hg
        clear ho hg
        go_upto_region 5 with (go_at_call 51; (with_reducible refine Calls.mono (Hid.out (HM0 _)) ?_); rintro e w5 ⟨rfl, hb5⟩; have HB5 := Lib.hid hb5; clear hb5; have c0 := (HB5.out.cell (p := ⟨g, j * 10, none⟩) (World.ownsRow.lt HO.out g rfl).2).trans c0; have f0 := World.ownsRow.frozenAt (World.ownsRow.kept HO.out (row := none) ⟨HB5.out.os, HB5.out.tape, HB5.out.output, HB5.out.size, fun i hi _ => HB5.out.block i hi⟩ (Or.inr (by intro h; cases h))) (j * 10))
        have ho5 := World.ownsRow.kept HO.out (row := none) ⟨HB5.out.os, HB5.out.tape, HB5.out.output, HB5.out.size, fun i hi _ => HB5.out.block i hi⟩ (Or.inr (by intro h; cases h))
        refine wp_gen (fun w' => w'.ownsRow base 60 10 (.slice (some ⟨g, 0, none⟩) n cap) n ((cs).set (j * 10) (.string (markV (kk)))) ∧ w.grownBy w' (some g)) ⟨(World.ownsRow.stored ho5 (j * 10) _).1, grownF (grown_any HG.out HB5.out) (World.ownsRow.stored ho5 (j * 10) _).2⟩ ?_
        clear ho5 HB5 HO HG HM0
        rintro w10 ⟨ho, hg⟩
        obtain ⟨z1, c1⟩ := ownsRow_some ho (j * 10 + 1) (by omega)
        have f1 := World.ownsRow.frozenAt ho (j * 10 + 1)
        have HO := Lib.hid ho
        have HG := Lib.hid hg
        clear ho hg
        go_upto_region 7 with fail
        refine wp_gen (fun w' => w'.ownsRow base 60 10 (.slice (some ⟨g, 0, none⟩) n cap) n (((cs).set (j * 10) (.string (markV (kk)))).set (j * 10 + 1) (.int .i64 (kk + 1))) ∧ w.grownBy w' (some g)) ⟨(World.ownsRow.stored HO.out (j * 10 + 1) _).1, grownF HG.out (World.ownsRow.stored HO.out (j * 10 + 1) _).2⟩ ?_
        clear HO HG
        clear z1 c1 f1
        rintro w11 ⟨ho, hg⟩
        obtain ⟨z2, c2⟩ := ownsRow_some ho (j * 10 + 2) (by omega)
        have f2 := World.ownsRow.frozenAt ho (j * 10 + 2)
        have HO := Lib.hid ho
        have HG := Lib.hid hg
        clear ho hg
        go_upto_region 9 with fail
        refine wp_gen (fun w' => w'.ownsRow base 60 10 (.slice (some ⟨g, 0, none⟩) n cap) n ((((cs).set (j * 10) (.string (markV (kk)))).set (j * 10 + 1) (.int .i64 (kk + 1))).set (j * 10 + 2) (.int .i64 (kk + 1 + 1))) ∧ w.grownBy w' (some g)) ⟨(World.ownsRow.stored HO.out (j * 10 + 2) _).1, grownF HG.out (World.ownsRow.stored HO.out (j * 10 + 2) _).2⟩ ?_
        clear HO HG
        clear z2 c2 f2
        rintro w12 ⟨ho, hg⟩
        obtain ⟨z3, c3⟩ := ownsRow_some ho (j * 10 + 3) (by omega)
        have f3 := World.ownsRow.frozenAt ho (j * 10 + 3)
        have HO := Lib.hid ho
        have HG := Lib.hid hg
        clear ho hg
        go_upto_region 11 with fail
        refine wp_gen (fun w' => w'.ownsRow base 60 10 (.slice (some ⟨g, 0, none⟩) n cap) n (((((cs).set (j * 10) (.string (markV (kk)))).set (j * 10 + 1) (.int .i64 (kk + 1))).set (j * 10 + 2) (.int .i64 (kk + 1 + 1))).set (j * 10 + 3) (.bool (((kk + 1 + 1 + 1) % 3 == 0)))) ∧ w.grownBy w' (some g)) ⟨(World.ownsRow.stored HO.out (j * 10 + 3) _).1, grownF HG.out (World.ownsRow.stored HO.out (j * 10 + 3) _).2⟩ ?_
        clear HO HG
        clear z3 c3 f3
        rintro w13 ⟨ho, hg⟩
        obtain ⟨z4, c4⟩ := ownsRow_some ho (j * 10 + 4) (by omega)
        have f4 := World.ownsRow.frozenAt ho (j * 10 + 4)
        have HO := Lib.hid ho
        have HG := Lib.hid hg
        clear ho hg
        go_upto_region 13 with fail
        refine wp_gen (fun w' => w'.ownsRow base 60 10 (.slice (some ⟨g, 0, none⟩) n cap) n ((((((cs).set (j * 10) (.string (markV (kk)))).set (j * 10 + 1) (.int .i64 (kk + 1))).set (j * 10 + 2) (.int .i64 (kk + 1 + 1))).set (j * 10 + 3) (.bool (((kk + 1 + 1 + 1) % 3 == 0)))).set (j * 10 + 4) (.int .i64 (kk + 1 + 1 + 1 + 1))) ∧ w.grownBy w' (some g)) ⟨(World.ownsRow.stored HO.out (j * 10 + 4) _).1, grownF HG.out (World.ownsRow.stored HO.out (j * 10 + 4) _).2⟩ ?_
        clear HO HG
        clear z4 c4 f4
        rintro w14 ⟨ho, hg⟩
        obtain ⟨z5, c5⟩ := ownsRow_some ho (j * 10 + 5) (by omega)
        have f5 := World.ownsRow.frozenAt ho (j * 10 + 5)
        have HO := Lib.hid ho
        have HG := Lib.hid hg
        clear ho hg
        go_upto_region 15 with fail
        refine wp_gen (fun w' => w'.ownsRow base 60 10 (.slice (some ⟨g, 0, none⟩) n cap) n (((((((cs).set (j * 10) (.string (markV (kk)))).set (j * 10 + 1) (.int .i64 (kk + 1))).set (j * 10 + 2) (.int .i64 (kk + 1 + 1))).set (j * 10 + 3) (.bool (((kk + 1 + 1 + 1) % 3 == 0)))).set (j * 10 + 4) (.int .i64 (kk + 1 + 1 + 1 + 1))).set (j * 10 + 5) (.int .i64 (kk + 1 + 1 + 1 + 1 + 1))) ∧ w.grownBy w' (some g)) ⟨(World.ownsRow.stored HO.out (j * 10 + 5) _).1, grownF HG.out (World.ownsRow.stored HO.out (j * 10 + 5) _).2⟩ ?_
        clear HO HG
        clear z5 c5 f5
        rintro w15 ⟨ho, hg⟩
        obtain ⟨z6, c6⟩ := ownsRow_some ho (j * 10 + 6) (by omega)
        have f6 := World.ownsRow.frozenAt ho (j * 10 + 6)
        have HO := Lib.hid ho
        have HG := Lib.hid hg
        clear ho hg
        go_upto_region 17 with fail
        refine wp_gen (fun w' => w'.ownsRow base 60 10 (.slice (some ⟨g, 0, none⟩) n cap) n ((((((((cs).set (j * 10) (.string (markV (kk)))).set (j * 10 + 1) (.int .i64 (kk + 1))).set (j * 10 + 2) (.int .i64 (kk + 1 + 1))).set (j * 10 + 3) (.bool (((kk + 1 + 1 + 1) % 3 == 0)))).set (j * 10 + 4) (.int .i64 (kk + 1 + 1 + 1 + 1))).set (j * 10 + 5) (.int .i64 (kk + 1 + 1 + 1 + 1 + 1))).set (j * 10 + 6) (.int .i64 (kk + 1 + 1 + 1 + 1 + 1 + 1))) ∧ w.grownBy w' (some g)) ⟨(World.ownsRow.stored HO.out (j * 10 + 6) _).1, grownF HG.out (World.ownsRow.stored HO.out (j * 10 + 6) _).2⟩ ?_
        clear HO HG
        clear z6 c6 f6
        rintro w16 ⟨ho, hg⟩
        obtain ⟨z7, c7⟩ := ownsRow_some ho (j * 10 + 7) (by omega)
        have f7 := World.ownsRow.frozenAt ho (j * 10 + 7)
        have HO := Lib.hid ho
        have HG := Lib.hid hg
        clear ho hg
        go_upto_region 19 with fail
        refine wp_gen (fun w' => w'.ownsRow base 60 10 (.slice (some ⟨g, 0, none⟩) n cap) n (((((((((cs).set (j * 10) (.string (markV (kk)))).set (j * 10 + 1) (.int .i64 (kk + 1))).set (j * 10 + 2) (.int .i64 (kk + 1 + 1))).set (j * 10 + 3) (.bool (((kk + 1 + 1 + 1) % 3 == 0)))).set (j * 10 + 4) (.int .i64 (kk + 1 + 1 + 1 + 1))).set (j * 10 + 5) (.int .i64 (kk + 1 + 1 + 1 + 1 + 1))).set (j * 10 + 6) (.int .i64 (kk + 1 + 1 + 1 + 1 + 1 + 1))).set (j * 10 + 7) (.int .i64 (kk + 1 + 1 + 1 + 1 + 1 + 1 + 1))) ∧ w.grownBy w' (some g)) ⟨(World.ownsRow.stored HO.out (j * 10 + 7) _).1, grownF HG.out (World.ownsRow.stored HO.out (j * 10 + 7) _).2⟩ ?_
        clear HO HG
        clear z7 c7 f7
        rintro w17 ⟨ho, hg⟩
        obtain ⟨z8, c8⟩ := ownsRow_some ho (j * 10 + 8) (by omega)
        have f8 := World.ownsRow.frozenAt ho (j * 10 + 8)
        have HO := Lib.hid ho
        have HG := Lib.hid hg
        clear ho hg
        go_upto_region 21 with fail
        refine wp_gen (fun w' => w'.ownsRow base 60 10 (.slice (some ⟨g, 0, none⟩) n cap) n ((((((((((cs).set (j * 10) (.string (markV (kk)))).set (j * 10 + 1) (.int .i64 (kk + 1))).set (j * 10 + 2) (.int .i64 (kk + 1 + 1))).set (j * 10 + 3) (.bool (((kk + 1 + 1 + 1) % 3 == 0)))).set (j * 10 + 4) (.int .i64 (kk + 1 + 1 + 1 + 1))).set (j * 10 + 5) (.int .i64 (kk + 1 + 1 + 1 + 1 + 1))).set (j * 10 + 6) (.int .i64 (kk + 1 + 1 + 1 + 1 + 1 + 1))).set (j * 10 + 7) (.int .i64 (kk + 1 + 1 + 1 + 1 + 1 + 1 + 1))).set (j * 10 + 8) (.int .i64 (kk + 1 + 1 + 1 + 1 + 1 + 1 + 1 + 1))) ∧ w.grownBy w' (some g)) ⟨(World.ownsRow.stored HO.out (j * 10 + 8) _).1, grownF HG.out (World.ownsRow.stored HO.out (j * 10 + 8) _).2⟩ ?_
        clear HO HG
        clear z8 c8 f8
        rintro w18 ⟨ho, hg⟩
        obtain ⟨z9, c9⟩ := ownsRow_some ho (j * 10 + 9) (by omega)
        have f9 := World.ownsRow.frozenAt ho (j * 10 + 9)
        have HO := Lib.hid ho
        have HG := Lib.hid hg
        clear ho hg
        go_upto_region 23 with fail
        refine wp_gen (fun w' => w'.ownsRow base 60 10 (.slice (some ⟨g, 0, none⟩) n cap) n (((((((((((cs).set (j * 10) (.string (markV (kk)))).set (j * 10 + 1) (.int .i64 (kk + 1))).set (j * 10 + 2) (.int .i64 (kk + 1 + 1))).set (j * 10 + 3) (.bool (((kk + 1 + 1 + 1) % 3 == 0)))).set (j * 10 + 4) (.int .i64 (kk + 1 + 1 + 1 + 1))).set (j * 10 + 5) (.int .i64 (kk + 1 + 1 + 1 + 1 + 1))).set (j * 10 + 6) (.int .i64 (kk + 1 + 1 + 1 + 1 + 1 + 1))).set (j * 10 + 7) (.int .i64 (kk + 1 + 1 + 1 + 1 + 1 + 1 + 1))).set (j * 10 + 8) (.int .i64 (kk + 1 + 1 + 1 + 1 + 1 + 1 + 1 + 1))).set (j * 10 + 9) (.int .i64 (kk + 1 + 1 + 1 + 1 + 1 + 1 + 1 + 1 + 1))) ∧ w.grownBy w' (some g)) ⟨(World.ownsRow.stored HO.out (j * 10 + 9) _).1, grownF HG.out (World.ownsRow.stored HO.out (j * 10 + 9) _).2⟩ ?_
        clear HO HG
        clear z9 c9 f9
        rintro w19 ⟨ho, hg⟩
        have HO := Lib.hid ho
        have HG := Lib.hid hg
        clear ho hg
        go_wp2_with fail
        go_roundw
        case rel => exact ⟨j + 1, by omega, by go_num, by rw [← HKK.out]; go_num, by have := HO.out; simp only [Int.add_assoc, Int.reduceAdd] at this; rw [← HSC2.out]; exact this, HG.out⟩
        case measure => simp [intOf]; omega
      · have hjn : j = n := by omega
        subst hjn
        have HO := Lib.hid ho
        have HG := Lib.hid hg
        clear ho hg
        go_wp2_with fail
        go_ret
        refine ⟨rfl, ?_, HG.out⟩
        unfold OwnRowF
        rw [HFL.out, ← HFI.out]
        exact HO.out
set_option maxRecDepth 100000 in
set_option maxHeartbeats 8000000 in
theorem heldRowS_any (w : World) (base : Nat) (v : Value) (k : Int) (n : Nat) (h : OwnRowF w base v (marksRow k n)) (hk0 : 1 ≤ k) (hk1 : k ≤ 1000000000000) (hl : n ≤ 1048576) :
    Calls Tryz.prog 29 #[v, .int .i64 k] w (Gives (.int .i64 (k + 10 * n)) w) := by
  have h' := h
  unfold OwnRowF at h'
  have hln := marksRow_length k n
  rcases h.2 with ⟨rfl, h0⟩ | ⟨g, cap, cur, rfl, _, _, hcn, hcm, _, _⟩
  · rw [hln] at h0
    subst h0
    clear h h' hln
    go_enter Tryz.func29, Tryz.ntmps29
    go_wp2_with fail
    go_loopw [1, 5] (fun c i wr => i = .int .i64 0 ∧ c = .int .i64 k ∧ wr = w) (fun _ i _ => 0)
    case atStart => exact ⟨rfl, rfl, rfl⟩
    case round =>
      obtain ⟨rfl, rfl, rfl⟩ := hrel
      go_wp2_with fail
      go_ret
      exact ⟨ret_i (by simp), Below.refl _ _⟩
  · have hglt := (World.ownsRow.lt h' g rfl).2
    have HC := Lib.hid (show ∀ j, j < n → ∀ f, f < 10 → w.cell? ⟨g, j * 10 + f, none⟩ = (rowCells (markRow (k + 10 * (j : Int))))[f]? from fun j hj f hf => by
      rw [World.ownsRow.cellAt h' (j * 10 + f) (by rw [hln]; omega), cellsF_at sizeRow zeroR _ j f (by rw [hln]; exact hj) hf, marksRow_getD k n j hj])
    rw [hln] at hcn ⊢
    unfold maxLen at hcm
    clear h h' hln
    go_enter Tryz.func29, Tryz.ntmps29
    go_wp2_with fail
    go_loopw [1, 5] (fun c i wr => ∃ j : Nat, j ≤ n ∧ i = .int .i64 j ∧ c = .int .i64 (k + 10 * j) ∧ Below w.heap.size w wr) (fun _ i _ => n - (intOf i).toNat)
    case atStart => exact ⟨0, Nat.zero_le _, rfl, by simp, Below.refl _ _⟩
    case round =>
      obtain ⟨j, hj, rfl, rfl, hb⟩ := hrel
      by_cases hlt : j < n
      · have HCJ := Lib.hid (HC.out j hlt)
        have b0 : 1 ≤ k + 10 * (j : Int) := by omega
        have b1 : k + 10 * (j : Int) ≤ 1000011000000 := by omega
        generalize hkk : k + 10 * (j : Int) = kk at *
        have HKK := Lib.hid hkk
        clear hkk
        have hjn : (j : Int) < (n : Int) := by omega
        have HB := Lib.hid hb
        have y0 : wr.cell? ⟨g, j * 10, none⟩ = some (.string (markV (kk))) := (hb.cell (p := ⟨g, j * 10, none⟩) hglt).trans (HCJ.out 0 (by decide))
        have y1 : wr.cell? ⟨g, j * 10 + 1, none⟩ = some (.int .i64 (kk + 1)) := (hb.cell (p := ⟨g, j * 10 + 1, none⟩) hglt).trans (HCJ.out 1 (by decide))
        have y2 : wr.cell? ⟨g, j * 10 + 2, none⟩ = some (.int .i64 (kk + 2)) := (hb.cell (p := ⟨g, j * 10 + 2, none⟩) hglt).trans (HCJ.out 2 (by decide))
        rw [show kk + 2 = kk + 1 + 1 from by omega] at y2
        have y3 : wr.cell? ⟨g, j * 10 + 3, none⟩ = some (.bool ((kk + 3) % 3 == 0)) := (hb.cell (p := ⟨g, j * 10 + 3, none⟩) hglt).trans (HCJ.out 3 (by decide))
        rw [show kk + 3 = kk + 1 + 1 + 1 from by omega] at y3
        have y4 : wr.cell? ⟨g, j * 10 + 4, none⟩ = some (.int .i64 (kk + 4)) := (hb.cell (p := ⟨g, j * 10 + 4, none⟩) hglt).trans (HCJ.out 4 (by decide))
        rw [show kk + 4 = kk + 1 + 1 + 1 + 1 from by omega] at y4
        have y5 : wr.cell? ⟨g, j * 10 + 5, none⟩ = some (.int .i64 (kk + 5)) := (hb.cell (p := ⟨g, j * 10 + 5, none⟩) hglt).trans (HCJ.out 5 (by decide))
        rw [show kk + 5 = kk + 1 + 1 + 1 + 1 + 1 from by omega] at y5
        have y6 : wr.cell? ⟨g, j * 10 + 6, none⟩ = some (.int .i64 (kk + 6)) := (hb.cell (p := ⟨g, j * 10 + 6, none⟩) hglt).trans (HCJ.out 6 (by decide))
        rw [show kk + 6 = kk + 1 + 1 + 1 + 1 + 1 + 1 from by omega] at y6
        have y7 : wr.cell? ⟨g, j * 10 + 7, none⟩ = some (.int .i64 (kk + 7)) := (hb.cell (p := ⟨g, j * 10 + 7, none⟩) hglt).trans (HCJ.out 7 (by decide))
        rw [show kk + 7 = kk + 1 + 1 + 1 + 1 + 1 + 1 + 1 from by omega] at y7
        have y8 : wr.cell? ⟨g, j * 10 + 8, none⟩ = some (.int .i64 (kk + 8)) := (hb.cell (p := ⟨g, j * 10 + 8, none⟩) hglt).trans (HCJ.out 8 (by decide))
        rw [show kk + 8 = kk + 1 + 1 + 1 + 1 + 1 + 1 + 1 + 1 from by omega] at y8
        have y9 : wr.cell? ⟨g, j * 10 + 9, none⟩ = some (.int .i64 (kk + 9)) := (hb.cell (p := ⟨g, j * 10 + 9, none⟩) hglt).trans (HCJ.out 9 (by decide))
        rw [show kk + 9 = kk + 1 + 1 + 1 + 1 + 1 + 1 + 1 + 1 + 1 from by omega] at y9
        clear hb
        have HM0 := fun W => Lib.hid (markText_any (kk) W (by omega) (by omega))
        generalize markV (kk) = mv0 at *
        have ym0 := txt_self mv0
        go_upto_region 4 with fail
        have HS0 := Lib.hid (show wr.drew.cell? ⟨g, j * 10, none⟩ = some (.string mv0) ∧ Below w.heap.size w wr.drew from ⟨y0, HB.out.trans (below_drew _ _)⟩)
        clear y0 y1 y2 y3 y4 y5 y6 y7 y8 y9
        have HCL := (⟨HS0.out⟩ : HoldsC (fun W => W.cell? ⟨g, j * 10, none⟩ = some (.string mv0) ∧ Below w.heap.size w W) _)
        have hall : ∀ p : Prop, (∀ W, HoldsC (fun W => W.cell? ⟨g, j * 10, none⟩ = some (.string mv0) ∧ Below w.heap.size w W) W → p) ↔ p := fun p => ⟨fun h => h _ HCL, fun h _ _ => h⟩
        refine wp_region_wq (C := HoldsC (fun W => W.cell? ⟨g, j * 10, none⟩ = some (.string mv0) ∧ Below w.heap.size w W)) (by kernel_rfl) (by kernel_rfl) HCL ?_
        repeat (refine WQ.step (fun K hK => ?_); go_simp; first | (refine hK _ ?_; clear hK K) | (apply Exists.intro; refine ⟨fun W hW => ?_, hK _ ?_⟩; (focus (first | (go_at_call 51; (with_reducible refine Calls.mono (Hid.out (HM0 _)) ?_); rintro e w' ⟨rfl, hb'⟩; exact ⟨rfl, ⟨⟨(hb'.cell (p := ⟨g, j * 10, none⟩) (Nat.lt_of_lt_of_le hglt hW.out.2.size)).trans hW.out.1, hW.out.2.trans (hb'.mono hW.out.2.size)⟩⟩⟩) | exact rfl | (obtain ⟨ya, yb⟩ := hW.out; go_simp; rfl))); clear hK K))
        refine WQ.nil ?_
        intro W hW
        obtain ⟨ya, yb⟩ := hW.out
        clear hall HCL
        have HB0 := Lib.hid yb
        have y1 : W.cell? ⟨g, j * 10 + 1, none⟩ = some (.int .i64 (kk + 1)) := (HB0.out.cell (p := ⟨g, j * 10 + 1, none⟩) hglt).trans (HCJ.out 1 (by decide))
        have y2 : W.cell? ⟨g, j * 10 + 2, none⟩ = some (.int .i64 (kk + 2)) := (HB0.out.cell (p := ⟨g, j * 10 + 2, none⟩) hglt).trans (HCJ.out 2 (by decide))
        rw [show kk + 2 = kk + 1 + 1 from by omega] at y2
        have y3 : W.cell? ⟨g, j * 10 + 3, none⟩ = some (.bool ((kk + 3) % 3 == 0)) := (HB0.out.cell (p := ⟨g, j * 10 + 3, none⟩) hglt).trans (HCJ.out 3 (by decide))
        rw [show kk + 3 = kk + 1 + 1 + 1 from by omega] at y3
        have y4 : W.cell? ⟨g, j * 10 + 4, none⟩ = some (.int .i64 (kk + 4)) := (HB0.out.cell (p := ⟨g, j * 10 + 4, none⟩) hglt).trans (HCJ.out 4 (by decide))
        rw [show kk + 4 = kk + 1 + 1 + 1 + 1 from by omega] at y4
        have y5 : W.cell? ⟨g, j * 10 + 5, none⟩ = some (.int .i64 (kk + 5)) := (HB0.out.cell (p := ⟨g, j * 10 + 5, none⟩) hglt).trans (HCJ.out 5 (by decide))
        rw [show kk + 5 = kk + 1 + 1 + 1 + 1 + 1 from by omega] at y5
        have y6 : W.cell? ⟨g, j * 10 + 6, none⟩ = some (.int .i64 (kk + 6)) := (HB0.out.cell (p := ⟨g, j * 10 + 6, none⟩) hglt).trans (HCJ.out 6 (by decide))
        rw [show kk + 6 = kk + 1 + 1 + 1 + 1 + 1 + 1 from by omega] at y6
        have y7 : W.cell? ⟨g, j * 10 + 7, none⟩ = some (.int .i64 (kk + 7)) := (HB0.out.cell (p := ⟨g, j * 10 + 7, none⟩) hglt).trans (HCJ.out 7 (by decide))
        rw [show kk + 7 = kk + 1 + 1 + 1 + 1 + 1 + 1 + 1 from by omega] at y7
        have y8 : W.cell? ⟨g, j * 10 + 8, none⟩ = some (.int .i64 (kk + 8)) := (HB0.out.cell (p := ⟨g, j * 10 + 8, none⟩) hglt).trans (HCJ.out 8 (by decide))
        rw [show kk + 8 = kk + 1 + 1 + 1 + 1 + 1 + 1 + 1 + 1 from by omega] at y8
        have y9 : W.cell? ⟨g, j * 10 + 9, none⟩ = some (.int .i64 (kk + 9)) := (HB0.out.cell (p := ⟨g, j * 10 + 9, none⟩) hglt).trans (HCJ.out 9 (by decide))
        rw [show kk + 9 = kk + 1 + 1 + 1 + 1 + 1 + 1 + 1 + 1 + 1 from by omega] at y9
        clear hW ya yb HS0 HM0
        go_wp2_with fail
        go_roundw
        case rel => exact ⟨j + 1, by omega, by go_num, by rw [← HKK.out]; go_num, HB0.out⟩
        case measure => simp [intOf]; omega
      · have hjn : j = n := by omega
        subst hjn
        go_wp2_with fail
        go_ret
        exact ⟨rfl, hb⟩
end Go.Proofs.YtlnkjpacjbhncaaGreatDoor
