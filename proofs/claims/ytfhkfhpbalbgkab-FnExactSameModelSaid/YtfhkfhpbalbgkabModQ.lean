/-
  Chapter 13: the library's comparison of keys with their kinds; the program's SameModel.
-/
import Derived.Test.YtfhkfhpbalbgkabModE
import Derived.Test.YtfhkfhpbalbgkabRpI
namespace Go.Proofs.Ytfhkfhpbalbgkab
open Go.RowKit M
set_option linter.unusedVariables false
set_option linter.unusedSimpArgs false
set_option maxRecDepth 100000 in
set_option maxHeartbeats 4000000 in
theorem iEqualKR_any (w : World) (v u : Value) (xs ys : List KR) (h : RecsArg 2 krCells zeroKR w v xs) (k : RecsArg 2 krCells zeroKR w u ys) : Calls Try.prog 23 #[v, u] w (Gives (.bool (decide (xs = ys))) w) := by
  obtain ⟨A, cap, rfl, h1, h2, h3⟩ := h
  obtain ⟨A', cap', rfl, k1, k2, k3⟩ := k
  unfold maxLen at h2 k2
  by_cases hl : xs.length = ys.length
  case neg =>
    have HE := Lib.hid (eq_len hl)
    have d : ((xs.length : Int) == (ys.length : Int)) = false := by rw [beq_eq_false_iff_ne]; omega
    generalize xs.length = n at *
    generalize ys.length = m at *
    clear h3 k3
    go_enter Try.func23, Try.ntmps23
    go_wp2_with fail
    go_ret
    exact ⟨ret_bool HE.out.symm, Below.refl _ _⟩
  have HALL := Lib.hid (fun (q : EqAt zeroKR xs ys xs.length) => eq_yes hl q)
  rw [← hl] at k1 k3 ⊢
  generalize hn : xs.length = n at *
  clear hn hl
  have H4 := Lib.hid h3
  have K4 := Lib.hid k3
  clear h3 k3
  go_enter Try.func23, Try.ntmps23
  go_wp2_with fail
  go_loopw [13] (fun i wr => ∃ j : Nat, j ≤ n ∧ i = .int .i64 j ∧ EqAt zeroKR xs ys j ∧ Below w.heap.size w wr) (fun i _ => n - (intOf i).toNat)
  case atStart => exact ⟨0, Nat.zero_le _, rfl, EqAt.zero _ _ _, Below.refl _ _⟩
  case round =>
    obtain ⟨j, hj, rfl, he, hbl⟩ := hrel
    have HQ := Lib.hid he
    clear he
    by_cases hlt : j < n
    · obtain ⟨b, off, rfl, hb, hc⟩ := H4.out (by omega)
      obtain ⟨b', off', rfl, hb', hc'⟩ := K4.out (by omega)
      obtain ⟨x0, x1⟩ := atKRow ((hc j hlt).below hb hbl)
      obtain ⟨y0, y1⟩ := atKRow ((hc' j hlt).below hb' hbl)
      have HB := Lib.hid hbl
      clear hc hc' hbl
      by_cases hr : xs.getD j zeroKR = ys.getD j zeroKR
      · have HN := Lib.hid (HQ.out.next hr)
        rw [← hr] at y0 y1
        generalize xs.getD j zeroKR = r at *
        have hne := fun W => eqn_kr W r
        clear hr
        obtain ⟨key, kind⟩ := r
        unfold KR.v at hne
        simp only at *
        go_wp2_with fail
        go_quiet (fail)
        go_wp2_with fail
        go_roundw
        case rel => exact ⟨j + 1, by omega, by go_num, HN.out, HB.out.trans ⟨rfl, rfl, rfl, Nat.le_refl _, fun _ _ => rfl⟩⟩
        case measure => simp [intOf]; omega
      · have HN := Lib.hid (show decide (xs = ys) = false from eq_ne hr)
        generalize xs.getD j zeroKR = r at *
        generalize ys.getD j zeroKR = r' at *
        have hne := fun W => neq_kr W r r' hr
        clear hr
        obtain ⟨key, kind⟩ := r
        obtain ⟨key', kind'⟩ := r'
        unfold KR.v at hne
        simp only at *
        go_wp2_with fail
        go_quiet (fail)
        go_wp2_with fail
        go_ret
        exact ⟨ret_bool HN.out.symm, HB.out.trans ⟨rfl, rfl, rfl, Nat.le_refl _, fun _ _ => rfl⟩⟩
    · have hjn : j = n := by omega
      subst hjn
      have HN := Lib.hid (HALL.out HQ.out)
      have HB := Lib.hid hbl
      clear hbl
      go_wp2_with fail
      go_ret
      exact ⟨ret_bool HN.out.symm, HB.out⟩
set_option maxRecDepth 100000 in
set_option maxHeartbeats 4000000 in
theorem iSameModel_any (w : World) (a b : Mo) (vk vr uk ur : Value) (h : MoIn w a vk vr) (k : MoIn w b uk ur) (fa : a.Fit) (fb : b.Fit) : Calls Try.prog 15 #[.agg #[vk, vr], .agg #[uk, ur]] w (Gives (.bool (sameMV a b)) w) := by
  have CK := fun W h k => Lib.hid (iEqualKR_any W vk uk a.keys b.keys h k)
  have CR := fun W h k => Lib.hid (iSameReport_any W vr ur a.rows b.rows h k fa.rows fb.rows)
  have HA := Lib.hid h
  have HK := Lib.hid k
  have HV := Lib.hid (show sameMV a b = (decide (a.keys = b.keys) && sameRV a.rows b.rows) from rfl)
  clear h k
  generalize sameMV a b = res at *
  generalize sameRV a.rows b.rows = sr at *
  generalize decide (a.keys = b.keys) = sk at *
  go_enter Try.func15, Try.ntmps15
  go_upto_region 1 with fail
  refine wp_gen (fun W => Blk W w.heap.size 31 #[vk, vr] ∧ Blk W (w.heap.size + 1) 31 #[uk, ur] ∧ Below w.heap.size w W) ⟨(Blk.new w _ _ _ rfl).alloc _, Blk.new _ _ _ _ (by simp [go_sem]), ((Below.refl _ _).alloc (Nat.le_refl _) _).alloc (by simp [go_sem]) _⟩ ?_
  rintro W ⟨g0, g1, hb⟩
  have G0 := Lib.hid g0; have G1 := Lib.hid g1; have HB := Lib.hid hb
  have p0 := g0.get 0; have q0 := g1.get 0
  simp at p0 q0
  clear g0 g1 hb
  go_wp2_with fail
  refine (CK _ (HA.out.below HB.out).keys (HK.out.below HB.out).keys).out.mono ?_
  rintro e w1 ⟨rfl, hb⟩
  replace HB := Lib.hid (HB.out.trans (hb.mono HB.out.size))
  have g0 := G0.out.below hb; have g1 := G1.out.below hb
  clear p0 q0 G0 G1
  have p1 := g0.get 1; have q1 := g1.get 1
  simp at p1 q1
  clear hb g0 g1
  cases sk with
  | false =>
    have HR := Lib.hid (show res = false by rw [HV.out]; rfl)
    go_wp2_with fail
    go_ret
    exact ⟨ret_bool HR.out.symm, HB.out⟩
  | true =>
    have HR := Lib.hid (show res = sr by rw [HV.out]; simp)
    go_wp2_with fail
    refine (CR _ (HA.out.below HB.out).rows (HK.out.below HB.out).rows).out.mono ?_
    rintro e w2 ⟨rfl, hb⟩
    replace HB := Lib.hid (HB.out.trans (hb.mono HB.out.size))
    clear hb p1 q1
    go_wp2_with fail
    go_ret
    exact ⟨ret_bool HR.out.symm, HB.out⟩
end Go.Proofs.Ytfhkfhpbalbgkab
