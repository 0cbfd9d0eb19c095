/-
  Contracts of the law's own helpers on rows of ints: the copy, the comparison, the marking, the check of the marks.
-/
import Derived.Test.YthfbacaamhkjpaaInts
import Derived.Deep.QuietTactic
import Derived.BigQuiet
import Derived.OwnWalk
import Derived.ProofKit
import Derived.OpenShut
namespace Go.Proofs.Ythfbacaamhkjpaa
open Go.RowKit M
set_option linter.unusedVariables false
theorem grownI_trans {a b c : World} {g : Nat} (h : a.grownBy b (some g)) (k : b.grownBy c (some g)) : a.grownBy c (some g) :=
  ⟨k.os.trans h.os, k.tape.trans h.tape, k.output.trans h.output, Nat.le_trans h.size k.size, fun i hi hne => (k.block i (Nat.lt_of_lt_of_le hi h.size) hne).trans (h.block i hi hne)⟩
theorem ret_val {a b : Value} (h : a = b) : Ending.returned a = .returned b := by rw [h]
theorem below_made {w w1 : World} (hg : w.grownBy w1 none) : Below w.heap.size w w1 := (Below.refl _ _).grown hg (Nat.le_refl _) (by intro _ h; cases h)
set_option maxRecDepth 100000 in
theorem toIntS_any (w : World) (v : Value) (zs : List Int) (h : IntsArg w v zs) (hl : zs.length ≤ 1048576) :
    Calls Try.prog 6 #[v] w (MadeI w zs) := by
  obtain ⟨i0, hi, hz0, hz1, hz2⟩ := info_parts info_int
  obtain ⟨A, cap, rfl, h1, h2, h3⟩ := h
  generalize hn : zs.length = n at *
  have HN := Lib.hid hn
  have HC := Lib.hid h3
  clear hn h3
  unfold maxLen at h2
  go_enter Try.func6, Try.ntmps6
  go_wp2_with (refine wpList_make_full _ rfl _ _ 22 rfl w.heap.size 3 i0 (.int .i64 0) 1 Try.underlying22 hi hz0 hz1 .i64 .i64 _ _ n rfl rfl rfl rfl ?c1 ?c2 ?c3 ?_; rotate_left 3; intro w1 hown hg; have HO := Lib.hid hown; have HG := Lib.hid hg; clear hown hg)
  case c1 => rw [hz2]; omega
  case c2 => unfold maxLen; omega
  case c3 => exact Nat.le_refl _
  clear hi hz0 hz1 hz2
  go_loopw [4] (fun i wr => ∃ j : Nat, j ≤ n ∧ i = .int .i64 j ∧ OwnI wr w.heap.size (.slice (some ⟨w.heap.size, 0, none⟩) n n) (partI zs j) ∧ Below w.heap.size w wr) (fun i _ => n - (intOf i).toNat)
  case atStart =>
    refine ⟨0, Nat.zero_le _, rfl, ?_, below_made HG.out⟩
    have := OwnI.made HO.out
    rw [← HN.out] at this ⊢
    simpa [partI] using this
  case round =>
    obtain ⟨j, hj, rfl, ho, hbl⟩ := hrel
    by_cases hlt : j < n
    · obtain ⟨b, off, hA, h3, hC⟩ := HC.out (by omega)
      have hcell := (hbl.cell (p := ⟨b, off + j, none⟩) h3).trans (hC j hlt)
      subst hA
      have hf := ho.frz j
      obtain ⟨z, hz⟩ : ∃ z, wr.cell? ⟨w.heap.size, j, none⟩ = some z := ⟨_, ho.cell j hlt⟩
      have HO2 := Lib.hid ho
      have HB := Lib.hid hbl
      clear ho hbl hC
      go_wp2
      go_roundw
      case rel =>
        have hst := HO2.out.set j (zs.getD j 0)
        rw [partI_set zs j (by rw [HN.out]; exact hlt)] at hst
        exact ⟨j + 1, by omega, by go_num, hst.1, HB.out.grown hst.2 HB.out.size (by intro _ h; cases h; exact Nat.le_refl _)⟩
      case measure => simp [intOf]; omega
    · obtain rfl : j = n := by omega
      have HO2 := Lib.hid ho
      have HB := Lib.hid hbl
      clear ho hbl
      go_wp2
      go_ret
      have := HO2.out
      rw [← HN.out, partI_all, HN.out] at this
      exact ⟨_, rfl, this, HB.out⟩
def Quiet (w : World) (v : Value) (e : Ending) (w' : World) : Prop := e = .returned v ∧ ∃ q, w' = w.drewN q
theorem Quiet.below {w w' : World} {v : Value} {e : Ending} (h : Quiet w v e w') : e = .returned v ∧ Below w.heap.size w w' := by
  obtain ⟨rfl, q, rfl⟩ := h
  exact ⟨rfl, ⟨rfl, rfl, rfl, Nat.le_refl _, fun _ _ => rfl⟩⟩
theorem getD_eq_of_eq {xs ys : List Int} (h : xs = ys) (j : Nat) : xs.getD j 0 = ys.getD j 0 := by rw [h]
theorem eqIntS_same (w : World) (v u : Value) (zs : List Int) (h : Ints w v zs) (k : Ints w u zs) :
    Calls Try.prog 8 #[v, u] w (Quiet w (.bool true)) := by
  obtain ⟨b, off, cap, rfl, h1, h2, h3, h4⟩ := h
  obtain ⟨b', off', cap', rfl, k1, k2, k3, k4⟩ := k
  generalize hn : zs.length = n at *
  clear hn
  unfold maxLen at h2 k2
  have H4 := Lib.hid h4
  have K4 := Lib.hid k4
  clear h4 k4
  go_enter Try.func8, Try.ntmps8
  go_wp2
  go_loopw [5] (fun i wr => ∃ j q : Nat, j ≤ n ∧ i = .int .i64 j ∧ wr = w.drewN q) (fun i _ => n - (intOf i).toNat)
  case atStart => exact ⟨0, 0, Nat.zero_le _, rfl, rfl⟩
  case round =>
    obtain ⟨j, q, hj, rfl, rfl⟩ := hrel
    by_cases hlt : j < n
    · have g1 := H4.out j hlt
      have g2 := K4.out j hlt
      generalize zs.getD j 0 = z at *
      go_wp2_with fail
      go_quiet (fail)
      go_wp2
      go_roundw
      case rel => exact ⟨j + 1, q + _, by omega, by go_num, rfl⟩
      case measure => simp [intOf]; omega
    · go_wp2
      go_ret
      exact ⟨rfl, q, rfl⟩
/-- Marks from k on. -/
def marks (k : Int) (n : Nat) : List Int := (List.range n).map fun (j : Nat) => k + (j : Int)
theorem marks_length (k : Int) (n : Nat) : (marks k n).length = n := by simp [marks]
theorem marks_getD (k : Int) (n j : Nat) (h : j < n) : (marks k n).getD j 0 = k + j := by simp [marks, List.getD_eq_getElem?_getD, h]
def mpart (zs : List Int) (k : Int) (j : Nat) : List Int := marks k j ++ zs.drop j
theorem mpart_length (zs : List Int) (k : Int) (j : Nat) (h : j ≤ zs.length) : (mpart zs k j).length = zs.length := by
  simp only [mpart, List.length_append, marks_length, List.length_drop]; omega
theorem mpart_zero (zs : List Int) (k : Int) : mpart zs k 0 = zs := by simp [mpart, marks]
theorem mpart_all (zs : List Int) (k : Int) : mpart zs k zs.length = marks k zs.length := by simp [mpart]
theorem mpart_set (zs : List Int) (k : Int) (j : Nat) (h : j < zs.length) : (mpart zs k j).set j (k + j) = mpart zs k (j + 1) := by
  unfold mpart
  rw [List.set_append_right _ _ (by rw [marks_length]; exact Nat.le_refl _), marks_length, Nat.sub_self, List.drop_eq_getElem_cons h]
  have : marks k (j + 1) = marks k j ++ [k + (j : Int)] := by simp [marks, List.range_succ]
  rw [this, List.set_cons_zero, List.append_assoc]; rfl
def Marked (w : World) (base : Nat) (v : Value) (k : Int) (n : Nat) (e : Ending) (w' : World) : Prop := e = .returned (.int .i64 (k + n)) ∧ OwnI w' base v (marks k n) ∧ w.grownBy w' v.ownBlock
set_option maxRecDepth 100000 in
theorem markIntS_any (w : World) (base : Nat) (v : Value) (zs : List Int) (k : Int) (h : OwnI w base v zs) (hl : zs.length ≤ 1048576) (hk0 : 0 ≤ k) (hk1 : k ≤ 1000000000000) :
    Calls Try.prog 9 #[v, .int .i64 k] w (Marked w base v k zs.length) := by
  obtain ⟨g, cap, rfl⟩ := h.2
  generalize hn : zs.length = n at *
  have HN := Lib.hid hn
  have HO := Lib.hid h
  have hcap : n ≤ 9223372036854775807 := by omega
  clear hn h
  go_enter Try.func9, Try.ntmps9
  go_wp2
  go_loopw [1, 5] (fun c i wr => ∃ j : Nat, j ≤ n ∧ i = .int .i64 j ∧ c = .int .i64 (k + j) ∧ OwnI wr base (.slice (some ⟨g, 0, none⟩) n cap) (mpart zs k j) ∧ w.grownBy wr (some g)) (fun _ i _ => n - (intOf i).toNat)
  case atStart =>
    refine ⟨0, Nat.zero_le _, rfl, by simp, ?_, World.grownBy.refl _ _⟩
    rw [mpart_zero]; exact HO.out
  case round =>
    obtain ⟨j, hj, rfl, rfl, ho, hg⟩ := hrel
    by_cases hlt : j < n
    · have hf := ho.frz j
      obtain ⟨z, hz⟩ : ∃ z, wr.cell? ⟨g, j, none⟩ = some z := ⟨_, ho.cell j hlt⟩
      have HO2 := Lib.hid ho
      have HG := Lib.hid hg
      clear ho hg
      go_wp2
      go_roundw
      case rel =>
        have hst := HO2.out.set j (k + j)
        rw [mpart_set zs k j (by rw [HN.out]; exact hlt)] at hst
        exact ⟨j + 1, by omega, by go_num, by go_num, hst.1, grownI_trans HG.out hst.2⟩
      case measure => simp [intOf]; omega
    · obtain rfl : j = n := by omega
      have HO2 := Lib.hid ho
      have HG := Lib.hid hg
      clear ho hg
      go_wp2
      go_ret
      have := HO2.out
      rw [← HN.out, mpart_all, HN.out] at this
      exact ⟨rfl, this, HG.out⟩
set_option maxRecDepth 100000 in
theorem heldIntS_any (w : World) (v : Value) (k : Int) (n : Nat) (h : Ints w v (marks k n)) (hk0 : 0 ≤ k) (hk1 : k ≤ 1000000000000) (hl : n ≤ 1048576) :
    Calls Try.prog 10 #[v, .int .i64 k] w fun e w' => e = .returned (.int .i64 (k + n)) ∧ w = w' := by
  obtain ⟨b, off, cap, rfl, h1, h2, h3, h4⟩ := h
  rw [marks_length] at *
  unfold maxLen at h2
  have H4 := Lib.hid h4
  clear h4
  go_enter Try.func10, Try.ntmps10
  go_wp2
  go_loop [1, 5] (fun c i => ∃ j : Nat, j ≤ n ∧ i = .int .i64 j ∧ c = .int .i64 (k + j)) (fun _ i => n - (intOf i).toNat)
  case atStart => exact ⟨0, Nat.zero_le _, rfl, by simp⟩
  case round =>
    obtain ⟨j, hj, rfl, rfl⟩ := hrel
    by_cases hlt : j < n
    · have g1 := H4.out j hlt
      rw [marks_getD k n j hlt] at g1
      go_wp2
      go_round
      case rel => exact ⟨j + 1, by omega, by go_num, by go_num⟩
      case measure => simp [intOf]; omega
    · obtain rfl : j = n := by omega
      go_wp2
      go_ret
      exact ⟨rfl, rfl⟩
/-- What the statement's opening of an argument gives, as a row of ints. -/
theorem IntsArg.of_cells {w : World} {x : Addr} {l c : Nat} {zs : List Int} (hl : l ≤ c) (hm : c ≤ maxLen) (hz : zs.length = c) (hc : ∀ i, i < zs.length → w.cell? (x.add i) = some (.int .i64 (zs.getD i 0))) :
    IntsArg w (.slice (some x) l c) (zs.take l) := by
  have e : (zs.take l).length = l := by rw [List.length_take]; omega
  refine ⟨some x, c, by rw [e], by rw [e]; exact hl, hm, fun hp => ?_⟩
  rw [e] at hp ⊢
  obtain ⟨b, off, spot⟩ := x
  have h0 := hc 0 (by omega)
  have hspot : spot = none := by simpa [Addr.add] using World.cell?_spot h0
  subst hspot
  have hlt : b < w.heap.size := by
    rcases Nat.lt_or_ge b w.heap.size with h1 | h1
    · exact h1
    · have e : w.heap[b]? = none := Array.getElem?_eq_none h1
      simp [Addr.add, World.cell?, e] at h0
  refine ⟨b, off, rfl, hlt, fun j hj => ?_⟩
  have hcj := hc j (by omega)
  have ea : (⟨b, off, none⟩ : Addr).add j = ⟨b, off + j, none⟩ := by unfold Addr.add; split <;> simp_all
  rw [ea] at hcj
  rw [hcj]
  simp [List.getD_eq_getElem?_getD, hj]
theorem Fit.of_wf {zs : List Int} {l : Nat} (h : ∀ n ∈ zs, (Lit.int .i64 n).wf = true) : Fit (zs.take l) := fun z hz => Go.bounds_i64 (h z (List.mem_of_mem_take hz))
end Go.Proofs.Ythfbacaamhkjpaa
