/-
  Drawing a yes or no, a number of a list, and a number as the model of chapter 1 draws it: by the cursor's state and the code alone.
-/
import Derived.Test.YtkcepbncjlbpbaaDoorDraw
namespace Go.Proofs.YtkcepbncjlbpbaaDoor
open Go.RowKit M
set_option linter.unusedVariables false
theorem Cur.kept {w w' : World} {g : Nat} {K : Code} {s : St} (c : Cur w g K s) (hg : w.grownBy w' none) : Cur w' g K s := by
  obtain ⟨h1, h2, h3⟩ := c
  have hlt : g < w.heap.size := by
    rcases Nat.lt_or_ge g w.heap.size with h | h
    · exact h
    · rw [Array.getElem?_eq_none h] at h1; cases h1
  refine ⟨(hg.block g hlt (by intro h; cases h)).trans h1, ⟨h2.1, fun h => ?_⟩, h3⟩
  obtain ⟨b, off, e, hb, hc⟩ := h2.2 h
  exact ⟨b, off, e, hb, fun j hj => ⟨hg.cell (hc j hj).1 (by intro h; cases h), (hc j hj).2⟩⟩
theorem Cur.alloc {w : World} {g : Nat} {K : Code} {s : St} (c : Cur w g K s) (o : Obj) : Cur (w.alloc o) g K s := c.kept (World.grownBy_alloc w o none)
theorem Cur.lt {w : World} {g : Nat} {K : Code} {s : St} (c : Cur w g K s) : g < w.heap.size := by
  rcases Nat.lt_or_ge g w.heap.size with h | h
  · exact h
  · have h1 := c.1; rw [Array.getElem?_eq_none h] at h1; cases h1
theorem once_any (w : World) (g : Nat) (K : Code) (n : Int) (s : St) (c : Cur w g K s) (h1 : n ≤ 4611686018427387904) :
    Calls Tryd.prog 27 #[.pointer (some ⟨g, 0, none⟩), .int .i64 n] w (Drawn w g K (.bool (belowV K n s == 0)) (belowS K n s)) := by
  have HB := Lib.hid (below_any w g K n s c h1)
  clear c h1
  go_enter Tryd.func27, Tryd.ntmps27
  go_wp2_with fail
  refine HB.out.mono ?_
  rintro e w1 ⟨rfl, hc1, hg1⟩
  have C1 := Lib.hid hc1
  have G1 := Lib.hid hg1
  clear hc1 hg1
  go_wp2_with fail
  go_ret
  exact ⟨rfl, C1.out, G1.out⟩
theorem pick_any (w : World) (g : Nat) (K : Code) (s : St) (c : Cur w g K s) (b : Nat) (hb : b ≠ g) (ls : List Int) (n : Nat) (hn : ls.length = n) (hn0 : 0 < n) (hn1 : n ≤ 1000000)
    (hc : ∀ j, j < n → w.cell? ⟨b, j, none⟩ = some (.int .i64 (ls.getD j 0))) :
    Calls Tryd.prog 30 #[.pointer (some ⟨g, 0, none⟩), .slice (some ⟨b, 0, none⟩) n n] w (Drawn w g K (.int .i64 (ls.getD (belowV K n s).toNat 0)) (belowS K n s)) := by
  have HB := Lib.hid (below_any w g K n s c (by omega))
  obtain ⟨v0, v1⟩ := belowV_bd K n s (by omega)
  generalize hv : belowV K n s = v at *
  have HV := Lib.hid hv
  clear hv
  obtain ⟨m, rfl⟩ := Int.eq_ofNat_of_zero_le v0
  have hm : m < n := by omega
  have HC := Lib.hid (hc m hm)
  have hne : some (Addr.mk b m none).block ≠ some g := by intro h; exact hb (by injection h)
  clear c hc
  go_enter Tryd.func30, Tryd.ntmps30
  go_wp2_with fail
  refine HB.out.mono ?_
  rintro e w1 ⟨rfl, hc1, hg1⟩
  have hcell := hg1.cell HC.out hne
  have C1 := Lib.hid hc1
  have G1 := Lib.hid hg1
  clear hc1 hg1
  go_wp2_with fail
  go_ret
  exact ⟨ret_int (by simp [List.getElem?_eq_getElem (show m < ls.length by omega)]), C1.out, G1.out⟩
/-- The numbers at the limits that a draw may pick. -/
def nums : List Int := [-1, 0, 127, 128, 255, 256, 16383, 16384, 65535, 65536, 562949953421311, 562949953421312, 999999999, 1000000000, -999999999, 9223372036854775807, -9223372036854775808]
def numV (K : Code) (s : St) : Int :=
  if belowV K 8 s = 0 then nums.getD (belowV K (17 : Nat) (belowS K 8 s)).toNat 0
  else if belowV K 8 s = 1 then belowV K 1000000000 (belowS K 8 s) * belowV K 1000000000 (belowS K 1000000000 (belowS K 8 s))
  else if belowV K 8 s = 2 then -(belowV K 100000 (belowS K 8 s))
  else belowV K 70000 (belowS K 8 s)
def numS (K : Code) (s : St) : St :=
  if belowV K 8 s = 0 then belowS K (17 : Nat) (belowS K 8 s)
  else if belowV K 8 s = 1 then belowS K 1000000000 (belowS K 1000000000 (belowS K 8 s))
  else if belowV K 8 s = 2 then belowS K 100000 (belowS K 8 s)
  else belowS K 70000 (belowS K 8 s)
theorem nums_bd : ∀ j : Nat, -9223372036854775808 ≤ nums.getD j 0 ∧ nums.getD j 0 ≤ 9223372036854775807 := by
  intro j
  by_cases h : j < 17
  · have : ∀ j : Nat, j < 17 → -9223372036854775808 ≤ nums.getD j 0 ∧ nums.getD j 0 ≤ 9223372036854775807 := by decide
    exact this j h
  · rw [List.getD_eq_getElem?_getD, List.getElem?_eq_none (by simp [nums]; omega)]; simp
theorem numV_bd (K : Code) (s : St) : -9223372036854775808 ≤ numV K s ∧ numV K s ≤ 9223372036854775807 := by
  unfold numV
  split
  · exact nums_bd _
  · split
    · have a := belowV_bd K 1000000000 (belowS K 8 s) (by decide)
      have b := belowV_bd K 1000000000 (belowS K 1000000000 (belowS K 8 s)) (by decide)
      have h1 : 0 ≤ belowV K 1000000000 (belowS K 8 s) * belowV K 1000000000 (belowS K 1000000000 (belowS K 8 s)) := Int.mul_nonneg a.1 b.1
      have h2 : belowV K 1000000000 (belowS K 8 s) * belowV K 1000000000 (belowS K 1000000000 (belowS K 8 s)) ≤ 1000000000 * 1000000000 := Int.mul_le_mul (by omega) (by omega) b.1 (by decide)
      omega
    · split
      · have := belowV_bd K 100000 (belowS K 8 s) (by decide); omega
      · have := belowV_bd K 70000 (belowS K 8 s) (by decide); omega
theorem nums_cells (w : World) : ∀ j, j < 17 → (w.alloc (.cells (nums.map (Value.int .i64)).toArray 3)).cell? ⟨w.heap.size, j, none⟩ = some (.int .i64 (nums.getD j 0)) := by
  intro j hj
  have e := heap_alloc_new w (.cells (nums.map (Value.int .i64)).toArray 3)
  rw [cell_of_row _ _ j _ _ _ e]
  have : ∀ j : Nat, j < 17 → ((nums.map (Value.int .i64)).toArray)[j]? = some (.int .i64 (nums.getD j 0)) := by
    intro j hj
    rw [List.getElem?_toArray, List.getElem?_map, List.getElem?_eq_getElem (by simpa [nums] using hj), List.getD_eq_getElem?_getD, List.getElem?_eq_getElem (by simpa [nums] using hj)]
    rfl
  exact this j hj
set_option maxRecDepth 100000 in
set_option maxHeartbeats 400000 in
theorem num_any (w : World) (g : Nat) (K : Code) (s : St) (c : Cur w g K s) :
    Calls Tryd.prog 21 #[.pointer (some ⟨g, 0, none⟩)] w (Drawn w g K (.int .i64 (numV K s)) (numS K s)) := by
  have HB := Lib.hid (below_any w g K 8 s c (by decide))
  obtain ⟨v0, v1⟩ := belowV_bd K 8 s (by decide)
  by_cases e0 : belowV K 8 s = 0
  · have HV := Lib.hid (show numV K s = nums.getD (belowV K (17 : Nat) (belowS K 8 s)).toNat 0 from if_pos e0)
    have HS := Lib.hid (show numS K s = belowS K (17 : Nat) (belowS K 8 s) from if_pos e0)
    have ht : (belowV K 8 s == 0) = true := by simpa using e0
    clear c e0
    go_enter Tryd.func21, Tryd.ntmps21
    go_wp2_with fail
    refine HB.out.mono ?_
    rintro e w1 ⟨rfl, hc1, hg1⟩
    have HP := Lib.hid (pick_any (w1.alloc (.cells (nums.map (Value.int .i64)).toArray 3)) g K _ (hc1.alloc _) w1.heap.size (by have := hc1.lt; omega) nums 17 rfl (by decide) (by decide) (nums_cells w1))
    have G1 := Lib.hid hg1
    clear hc1 hg1
    go_wp2_with fail
    refine HP.out.mono ?_
    rintro e w2 ⟨rfl, hc2, hg2⟩
    have C2 := Lib.hid hc2
    have G2 := Lib.hid hg2
    clear hc2 hg2
    go_wp2_with fail
    go_ret
    exact ⟨ret_int HV.out.symm, by rw [HS.out]; exact C2.out, grown_trans (grown_trans G1.out (World.grownBy_alloc _ _ _)) G2.out⟩
  · have ht : (belowV K 8 s == 0) = false := by simpa using e0
    by_cases e1 : belowV K 8 s = 1
    · have HV := Lib.hid (show numV K s = belowV K 1000000000 (belowS K 8 s) * belowV K 1000000000 (belowS K 1000000000 (belowS K 8 s)) by unfold numV; rw [if_neg e0, if_pos e1])
      have HS := Lib.hid (show numS K s = belowS K 1000000000 (belowS K 1000000000 (belowS K 8 s)) by unfold numS; rw [if_neg e0, if_pos e1])
      have HW := Lib.hid (numV_bd K s)
      have ht1 : (belowV K 8 s == 1) = true := by simpa using e1
      clear c e0 e1
      go_enter Tryd.func21, Tryd.ntmps21
      go_wp2_with fail
      refine HB.out.mono ?_
      rintro e w1 ⟨rfl, hc1, hg1⟩
      have HP := Lib.hid (below_any w1 g K 1000000000 _ hc1 (by decide))
      have G1 := Lib.hid hg1
      clear hc1 hg1
      go_wp2_with fail
      refine HP.out.mono ?_
      rintro e w2 ⟨rfl, hc2, hg2⟩
      have HP2 := Lib.hid (below_any w2 g K 1000000000 _ hc2 (by decide))
      have G2 := Lib.hid hg2
      clear hc2 hg2
      go_wp2_with fail
      refine HP2.out.mono ?_
      rintro e w3 ⟨rfl, hc3, hg3⟩
      have C3 := Lib.hid hc3
      have G3 := Lib.hid hg3
      clear hc3 hg3
      have hwr : wrap64 (belowV K 1000000000 (belowS K 8 s) * belowV K 1000000000 (belowS K 1000000000 (belowS K 8 s))) = numV K s := by
        have h := HW.out
        rw [← HV.out]
        exact IntWalk.wrap64_in _ h
      go_wp2_with fail
      go_ret
      exact ⟨ret_int hwr, by rw [HS.out]; exact C3.out, grown_trans (grown_trans G1.out G2.out) G3.out⟩
    · have ht1 : (belowV K 8 s == 1) = false := by simpa using e1
      by_cases e2 : belowV K 8 s = 2
      · have HV := Lib.hid (show numV K s = -(belowV K 100000 (belowS K 8 s)) by unfold numV; rw [if_neg e0, if_neg e1, if_pos e2])
        have HS := Lib.hid (show numS K s = belowS K 100000 (belowS K 8 s) by unfold numS; rw [if_neg e0, if_neg e1, if_pos e2])
        have ht2 : (belowV K 8 s == 2) = true := by simpa using e2
        obtain ⟨u0, u1⟩ := belowV_bd K 100000 (belowS K 8 s) (by decide)
        clear c e0 e1 e2
        go_enter Tryd.func21, Tryd.ntmps21
        go_wp2_with fail
        refine HB.out.mono ?_
        rintro e w1 ⟨rfl, hc1, hg1⟩
        have HP := Lib.hid (below_any w1 g K 100000 _ hc1 (by decide))
        have G1 := Lib.hid hg1
        clear hc1 hg1
        go_wp2_with fail
        refine HP.out.mono ?_
        rintro e w2 ⟨rfl, hc2, hg2⟩
        have C2 := Lib.hid hc2
        have G2 := Lib.hid hg2
        clear hc2 hg2
        go_wp2_with fail
        go_ret
        exact ⟨ret_int HV.out.symm, by rw [HS.out]; exact C2.out, grown_trans G1.out G2.out⟩
      · have HV := Lib.hid (show numV K s = belowV K 70000 (belowS K 8 s) by unfold numV; rw [if_neg e0, if_neg e1, if_neg e2])
        have HS := Lib.hid (show numS K s = belowS K 70000 (belowS K 8 s) by unfold numS; rw [if_neg e0, if_neg e1, if_neg e2])
        have ht2 : (belowV K 8 s == 2) = false := by simpa using e2
        obtain ⟨u0, u1⟩ := belowV_bd K 70000 (belowS K 8 s) (by decide)
        clear c e0 e1 e2
        go_enter Tryd.func21, Tryd.ntmps21
        go_wp2_with fail
        refine HB.out.mono ?_
        rintro e w1 ⟨rfl, hc1, hg1⟩
        have HP := Lib.hid (below_any w1 g K 70000 _ hc1 (by decide))
        have G1 := Lib.hid hg1
        clear hc1 hg1
        go_wp2_with fail
        refine HP.out.mono ?_
        rintro e w2 ⟨rfl, hc2, hg2⟩
        have C2 := Lib.hid hc2
        have G2 := Lib.hid hg2
        clear hc2 hg2
        go_wp2_with fail
        go_ret
        exact ⟨ret_int HV.out.symm, by rw [HS.out]; exact C2.out, grown_trans G1.out G2.out⟩
end Go.Proofs.YtkcepbncjlbpbaaDoor
