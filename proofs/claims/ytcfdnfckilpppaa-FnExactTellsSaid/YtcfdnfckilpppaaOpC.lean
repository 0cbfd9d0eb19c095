/-
  The exact laws' helpers on the record Op and on rows of it: the copy, the size, comparing two.
-/
import Derived.Test.YtcfdnfckilpppaaZa
import Derived.Deep.QuietTactic
import Derived.BigQuiet
import Derived.ProofKit
import Derived.OpenShut
import Derived.BigGuardPart
namespace Go.Proofs.Ytcfdnfckilpppaa
open Go.RowKit M
set_option linter.unusedVariables false
set_option linter.unusedSimpArgs false
set_option maxRecDepth 100000 in
theorem toOp_any (w : World) (r : O) : Calls Try.prog 55 #[r.v] w (Gives r.v w) := by
  obtain ⟨kind_, key_, what_, val_⟩ := r
  unfold O.v
  simp only
  go_enter Try.func55, Try.ntmps55
  go_wp2_with fail
  exact bodyPost_ret (v := .agg #[.int .i64 kind_, .string key_, .int .i64 what_, .int .i64 val_]) (by simp [results, Try.results55, go_sem]) rfl ⟨rfl, (((Below.refl _ _).alloc (Nat.le_refl _) _).alloc (by simp [go_sem]) _).alloc (by simp [go_sem]; omega) _⟩
set_option maxRecDepth 100000 in
set_option maxHeartbeats 800000 in
theorem eqOp_same (w : World) (r : O) : Calls Try.prog 49 #[r.v, r.v] w (Gives (.bool true) w) := by
  obtain ⟨kind_, key_, what_, val_⟩ := r
  unfold O.v
  simp only
  go_enter Try.func49, Try.ntmps49
  go_wp2_with fail
  go_ret
  exact ⟨rfl, ((Below.refl _ _).alloc (Nat.le_refl _) _).alloc (by simp [go_sem]) _⟩
set_option maxRecDepth 100000 in
set_option maxHeartbeats 1000000 in
theorem toOpS_any (w : World) (v : Value) (l : List O) (h : RecsArg 4 opCells zeroO w v l) (hl : l.length ≤ 1048576) :
    Calls Try.prog 59 #[v] w (MadeF 53 4 opCells w l) := by
  obtain ⟨i0, hi, hz0, hz1, hz2⟩ := info_parts info_Op
  obtain ⟨A, cap, rfl, h1, h2, h3⟩ := h
  generalize hn : l.length = n at *
  have HN := Lib.hid hn
  have HC := Lib.hid h3
  clear hn h3
  unfold maxLen at h2
  go_enter Try.func59, Try.ntmps59
  go_wp2_with (refine wpList_make_full _ rfl _ _ 88 rfl w.heap.size 53 i0 zeroO.v 4 Try.underlying88 hi hz0 hz1 .i64 .i64 _ _ n rfl rfl rfl rfl ?c1 ?c2 ?c3 ?_; rotate_left 3; intro w1 hown hg; have HO := Lib.hid hown; have HG := Lib.hid hg; clear hown hg)
  case c1 => rw [hz2]; omega
  case c2 => unfold maxLen; omega
  case c3 => exact Nat.le_refl _
  clear hi hz0 hz1 hz2
  go_loopw [4] (fun i wr => ∃ j : Nat, j ≤ n ∧ i = .int .i64 j ∧ OwnF 53 4 opCells wr w.heap.size (.slice (some ⟨w.heap.size, 0, none⟩) n n) (partF zeroO l j) ∧ Below w.heap.size w wr) (fun i _ => n - (intOf i).toNat)
  case atStart =>
    refine ⟨0, Nat.zero_le _, rfl, ?_, below_madeF HG.out⟩
    have := HO.out
    rw [zeroF_cells (c := opCells) (z := zeroO) zeroO.v rfl sizeOp (by decide)] at this
    unfold OwnF
    rw [partF_zero, HN.out, List.length_replicate]
    exact this
  case round =>
    obtain ⟨j, hj, rfl, ho, hbl⟩ := hrel
    by_cases hlt : j < n
    · obtain ⟨b, off, hA, h3, hC⟩ := HC.out (by omega)
      obtain ⟨x0, x1, x2, x3⟩ := atOp ((hC j hlt).below h3 hbl)
      subst hA
      have HR := fun W => Lib.hid (toOp_any W (l.getD j zeroO))
      have HP := Lib.hid (partF_set (z := zeroO) l j (by rw [HN.out]; exact hlt))
      have HO2 := Lib.hid ho
      have HB := Lib.hid hbl
      clear ho hbl hC
      generalize l.getD j zeroO = r at *
      obtain ⟨kind_, key_, what_, val_⟩ := r
      unfold O.v at HR
      simp only at *
      go_wp2_with fail
      refine (HR _).out.mono ?_
      rintro e w2 ⟨rfl, hb2⟩
      have HO3 := Lib.hid (HO2.out.below hb2)
      have HB2 := Lib.hid (HB.out.trans (hb2.mono HB.out.size))
      obtain ⟨z0, z1, z2, z3⟩ := atOp (HO3.out.at sizeOp zeroO (by rw [partF_length, HN.out]) j hlt)
      have zf := HO3.out.frz (by rw [partF_length, HN.out])
      clear hb2 HO2 HB
      go_wp2_with fail
      go_roundw
      case rel =>
        have hst := HO3.out.put sizeOp (by rw [partF_length, HN.out]) j hlt ⟨kind_, key_, what_, val_⟩
        rw [HP.out] at hst
        exact ⟨j + 1, by omega, by go_num, hst.1, HB2.out.grown hst.2 HB2.out.size (by intro _ h; cases h; exact Nat.le_refl _)⟩
      case measure => simp [intOf]; omega
    · obtain rfl : j = n := by omega
      have HO2 := Lib.hid ho
      have HB := Lib.hid hbl
      clear ho hbl
      go_wp2_with fail
      go_ret
      have := HO2.out
      rw [← HN.out, partF_all, HN.out] at this
      exact ⟨_, rfl, this, HB.out⟩
set_option maxRecDepth 100000 in
set_option maxHeartbeats 1000000 in
theorem eqOpS_same (w : World) (v u : Value) (l : List O) (h : RecsArg 4 opCells zeroO w v l) (k : RecsArg 4 opCells zeroO w u l) : Calls Try.prog 60 #[v, u] w (Gives (.bool true) w) := by
  obtain ⟨A, cap, rfl, h1, h2, h3⟩ := h
  obtain ⟨A', cap', rfl, k1, k2, k3⟩ := k
  generalize hn : l.length = n at *
  clear hn
  unfold maxLen at h2 k2
  have H4 := Lib.hid h3
  have K4 := Lib.hid k3
  clear h3 k3
  go_enter Try.func60, Try.ntmps60
  go_wp2_with fail
  go_loopw [5] (fun i wr => ∃ j : Nat, j ≤ n ∧ i = .int .i64 j ∧ Below w.heap.size w wr) (fun i _ => n - (intOf i).toNat)
  case atStart => exact ⟨0, Nat.zero_le _, rfl, Below.refl _ _⟩
  case round =>
    obtain ⟨j, hj, rfl, hbl⟩ := hrel
    by_cases hlt : j < n
    · obtain ⟨b, off, rfl, hb, hc⟩ := H4.out (by omega)
      obtain ⟨b', off', rfl, hb', hc'⟩ := K4.out (by omega)
      have HX := Lib.hid (hc j hlt)
      have HY := Lib.hid (hc' j hlt)
      have HR := fun W => Lib.hid (eqOp_same W (l.getD j zeroO))
      have HS := Lib.hid (show Below w.heap.size w wr.drew from hbl.trans (below_drew _ _))
      clear hc hc' hbl
      generalize l.getD j zeroO = r at *
      obtain ⟨kind_, key_, what_, val_⟩ := r
      unfold O.v at HR
      simp only at HR
      have hjn : (j : Int) < (n : Int) := by omega
      go_wp2_with fail
      have HCL := (⟨HS.out⟩ : HoldsC (fun W => Below w.heap.size w W) _)
      have hall : ∀ p : Prop, (∀ W, HoldsC (fun W => Below w.heap.size w W) W → p) ↔ p := fun p => ⟨fun h => h _ HCL, fun h _ _ => h⟩
      refine wp_region_wq (C := HoldsC (fun W => Below w.heap.size w W)) (by kernel_rfl) (by kernel_rfl) HCL ?_
      repeat (refine WQ.step (fun K hK => ?_); go_simp; first | (refine hK _ ?_; clear hK K) | (apply Exists.intro; refine ⟨fun W hW => ?_, hK _ ?_⟩; (focus (first | (go_at_call 49; (with_reducible refine Calls.mono (Hid.out (HR _)) ?_); rintro e w' ⟨rfl, hb'⟩; exact ⟨rfl, ⟨hW.out.trans (hb'.mono hW.out.size)⟩⟩) | exact rfl | (obtain hB := hW.out; obtain ⟨x0, x1, x2, x3⟩ := atOp (HX.out.below hb hB); obtain ⟨y0, y1, y2, y3⟩ := atOp (HY.out.below hb' hB); simp only at *; go_simp; rfl))); clear hK K))
      refine WQ.nil ?_
      intro W hW
      obtain hB := hW.out; obtain ⟨x0, x1, x2, x3⟩ := atOp (HX.out.below hb hB); obtain ⟨y0, y1, y2, y3⟩ := atOp (HY.out.below hb' hB); simp only at *
      clear hall HCL
      have HB := Lib.hid hW.out
      clear hW
      go_wp2_with fail
      go_roundw
      case rel => exact ⟨j + 1, by omega, by go_num, HB.out⟩
      case measure => simp [intOf]; omega
    · have HB := Lib.hid hbl
      clear hbl
      go_wp2_with fail
      go_ret
      exact ⟨rfl, HB.out⟩
/-- What is left of a budget behind a record's text. -/
theorem szOp_any (w : World) (r : O) (left : Int) (hk : r.key.size ≤ maxLen) (h0 : 0 ≤ left) (h1 : left ≤ 1048576) : Calls Try.prog 53 #[r.v, .int .i64 left] w (Gives (.int .i64 (if left - (r.key.size : Int) < 0 then -1 else left - (r.key.size : Int))) w) := by
  obtain ⟨kind_, key_, what_, val_⟩ := r
  unfold O.v
  simp only at *
  unfold maxLen at hk
  by_cases h : left - (key_.size : Int) < 0
  · have hd : decide (left - (key_.size : Int) < 0) = true := by rw [decide_eq_true]; exact h
    rw [if_pos h]
    go_enter Try.func53, Try.ntmps53
    go_wp2_with fail
    go_ret
    exact ⟨rfl, (Below.refl _ _).alloc (Nat.le_refl _) _⟩
  · have hd : decide (left - (key_.size : Int) < 0) = false := by rw [decide_eq_false]; exact h
    rw [if_neg h]
    go_enter Try.func53, Try.ntmps53
    go_wp2_with fail
    go_ret
    exact ⟨rfl, (Below.refl _ _).alloc (Nat.le_refl _) _⟩
set_option maxRecDepth 100000 in
set_option maxHeartbeats 1000000 in
theorem szOpS_any (w : World) (v : Value) (l : List O) (left : Int) (h : RecsArg 4 opCells zeroO w v l) (hk : ∀ j, j < l.length → (l.getD j zeroO).key.size ≤ maxLen) (h0 : 0 ≤ left) (h1 : left ≤ 1048576) :
    Calls Try.prog 58 #[v, .int .i64 left] w (Gives (.int .i64 (szVF (fun r : O => r.key.size) l left)) w) := by
  obtain ⟨A, cap, rfl, h2, h3, h4⟩ := h
  have HC := Lib.hid h4
  have HK := Lib.hid hk
  have HL := Lib.hid (fun j (hj : j < l.length) => szLF_drop (fun r : O => r.key.size) zeroO l j hj)
  have HE := Lib.hid (show l.drop l.length = [] by simp)
  unfold maxLen at h3
  clear h4 hk
  by_cases hb : left - (l.length : Int) < 0
  · have HV := Lib.hid (show szVF (fun r : O => r.key.size) l left = -1 from if_pos hb)
    have d1 : decide (left - (l.length : Int) < 0) = true := decide_eq_true hb
    generalize l.length = n at *
    go_enter Try.func58, Try.ntmps58
    go_wp2_with fail
    go_ret
    exact ⟨ret_i HV.out.symm, Below.refl _ _⟩
  · have HV := Lib.hid (show szVF (fun r : O => r.key.size) l left = szLF (fun r : O => r.key.size) (l.drop 0) (left - (l.length : Int)) by unfold szVF; rw [if_neg hb, List.drop_zero])
    have d1 : decide (left - (l.length : Int) < 0) = false := decide_eq_false hb
    have hn : l.length ≤ 1048576 := by omega
    generalize hln : l.length = n at *
    clear hln
    go_enter Try.func58, Try.ntmps58
    go_wp2_with fail
    go_loopw [1, 5] (fun c i wr => ∃ (j : Nat) (x : Int), j ≤ n ∧ i = .int .i64 j ∧ c = .int .i64 x ∧ 0 ≤ x ∧ x ≤ 1048576 ∧ szLF (fun r : O => r.key.size) (l.drop 0) (left - (n : Int)) = szLF (fun r : O => r.key.size) (l.drop j) x ∧ Below w.heap.size w wr) (fun _ i _ => n - (intOf i).toNat)
    case atStart => exact ⟨0, _, Nat.zero_le _, rfl, rfl, by omega, by omega, rfl, Below.refl _ _⟩
    case round =>
      obtain ⟨j, x, hj, rfl, rfl, hx0, hx1, he, hbl⟩ := hrel
      have HB := Lib.hid hbl
      have HX := Lib.hid he
      clear hbl he
      by_cases hlt : j < n
      · obtain ⟨b, off, hA, h3', hC⟩ := HC.out (by omega)
        obtain ⟨x0, x1, x2, x3⟩ := atOp ((hC j hlt).below h3' HB.out)
        subst hA
        have hks := HK.out j hlt
        have HS := Lib.hid (HL.out j hlt x)
        have HR := fun W => Lib.hid (szOp_any W (l.getD j zeroO) x hks hx0 hx1)
        clear hC
        generalize l.getD j zeroO = r at *
        obtain ⟨kind_, key_, what_, val_⟩ := r
        unfold O.v at HR
        unfold maxLen at hks
        simp only at *
        by_cases hneg : x - (key_.size : Int) < 0
        · rw [if_pos hneg] at HR HS
          go_wp2_with fail
          refine (HR _).out.mono ?_
          rintro e w2 ⟨rfl, hb2⟩
          go_wp2_with fail
          go_ret
          exact ⟨ret_i (by rw [HV.out, HX.out, HS.out]), HB.out.trans (hb2.mono HB.out.size)⟩
        · rw [if_neg hneg] at HR HS
          have d2 : decide (x - (key_.size : Int) < 0) = false := decide_eq_false hneg
          go_wp2_with fail
          refine (HR _).out.mono ?_
          rintro e w2 ⟨rfl, hb2⟩
          go_wp2_with fail
          go_roundw
          case rel => exact ⟨j + 1, _, by omega, by go_num, rfl, by omega, by omega, by rw [HX.out, HS.out], HB.out.trans (hb2.mono HB.out.size)⟩
          case measure => simp [intOf]; omega
      · have hjn : j = n := by omega
        subst hjn
        go_wp2_with fail
        go_ret
        exact ⟨ret_i (by rw [HV.out, HX.out, HE.out]; rfl), HB.out⟩
end Go.Proofs.Ytcfdnfckilpppaa
