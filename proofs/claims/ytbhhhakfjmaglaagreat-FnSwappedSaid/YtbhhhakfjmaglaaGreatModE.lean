/-
  Chapter 13: the model's and the library's comparison of keys with their kinds; SameModel, the model's.
-/
import Derived.Test.YtbhhhakfjmaglaaGreatZc
import Derived.Test.YtbhhhakfjmaglaaGreatSameG
import Derived.Test.YtbhhhakfjmaglaaGreatZb
namespace Go.Proofs.YtbhhhakfjmaglaaGreat
open Go.RowKit M
set_option linter.unusedVariables false
set_option linter.unusedSimpArgs false
instance decKR : DecidableEq KR := fun a b =>
  if h : a.key = b.key ∧ a.kind = b.kind then
    .isTrue (by
      obtain ⟨h0, h1⟩ := h
      cases a; cases b
      simp only at *
      subst h0; subst h1
      rfl)
  else .isFalse (fun e => h (by subst e; exact ⟨rfl, rfl⟩))
theorem stood_kr : Tryz.prog.stoodInHeld 40 = false := by kernel_rfl
set_option maxRecDepth 100000 in
theorem neq_kr (w : World) (r s : KR) (h : r ≠ s) : (binOp .neq 40 r.v s.v).run Tryz.prog w = .ok (.bool true) w := by
  obtain ⟨key, kind⟩ := r
  obtain ⟨key', kind'⟩ := s
  unfold KR.v
  simp only at *
  rw [run_neq_struct, run_equalIn_struct _ _ _ _ _ (by kernel_rfl) stood_kr]
  by_cases e1 : key = key'
  · subst e1
    simp [go_sem]
    rintro rfl
    exact h rfl
  · have e := txt_ne e1
    simp [go_sem, e]
theorem eqn_kr (w : World) (r : KR) : (binOp .neq 40 r.v r.v).run Tryz.prog w = .ok (.bool false) w := by
  obtain ⟨key, kind⟩ := r
  unfold KR.v
  rw [run_neq_struct, run_equalIn_struct _ _ _ _ _ (by kernel_rfl) stood_kr]
  simp [go_sem]
def sameMV (a b : Mo) : Bool := decide (a.keys = b.keys) && sameRV a.rows b.rows
set_option maxRecDepth 100000 in
set_option maxHeartbeats 4000000 in
theorem sSameModel_any (w : World) (a b : Mo) (vk vr uk ur : Value) (h : MoIn w a vk vr) (k : MoIn w b uk ur) : Calls Tryz.prog 10 #[.agg #[vk, vr], .agg #[uk, ur]] w (Gives (.bool (sameMV a b)) w) := by
  have CR := fun W h k => Lib.hid (sSameReport_any W vr ur a.rows b.rows h k)
  have HR := Lib.hid h.rows
  have KR1 := Lib.hid k.rows
  obtain ⟨A, cap, rfl, h1, h2, h3⟩ := h.keys
  obtain ⟨A', cap', rfl, k1, k2, k3⟩ := k.keys
  clear h k
  have HV := Lib.hid (show sameMV a b = (decide (a.keys = b.keys) && sameRV a.rows b.rows) from rfl)
  generalize sameMV a b = res at *
  generalize sameRV a.rows b.rows = sr at *
  obtain ⟨xs, ra⟩ := a
  obtain ⟨ys, rb⟩ := b
  simp only at *
  unfold maxLen at h2 k2
  by_cases hl : xs.length = ys.length
  case neg =>
    have HE := Lib.hid (eq_len hl)
    have d : decide ((xs.length : Int) = (ys.length : Int)) = false := by rw [decide_eq_false]; omega
    have d' : ((xs.length : Int) == (ys.length : Int)) = false := by rw [beq_eq_false_iff_ne]; omega
    have HV2 := Lib.hid (show res = false by rw [HV.out, HE.out]; rfl)
    clear HV
    generalize xs.length = n at *
    generalize ys.length = m at *
    clear h3 k3
    go_enter Tryz.func10, Tryz.ntmps10
    go_wp2_with fail
    go_ret
    exact ⟨ret_bool HV2.out.symm, ((Below.refl _ _).alloc (Nat.le_refl _) _).alloc (by simp [go_sem]) _⟩
  have HALL := Lib.hid (fun (q : EqAt zeroKR xs ys xs.length) => show res = sr by rw [HV.out, eq_yes hl q, Bool.true_and])
  have HNO := Lib.hid (fun (q : decide (xs = ys) = false) => show res = false by rw [HV.out, q, Bool.false_and])
  clear HV
  rw [← hl] at k1 k3 ⊢
  generalize hn : xs.length = n at *
  clear hn hl
  have H4 := Lib.hid h3
  have K4 := Lib.hid k3
  clear h3 k3
  go_enter Tryz.func10, Tryz.ntmps10
  go_upto_region 1 with fail
  refine wp_gen (fun W => Blk W w.heap.size 27 #[.slice A n cap, vr] ∧ Blk W (w.heap.size + 1) 27 #[.slice A' n cap', ur] ∧ Below w.heap.size w W) ⟨(Blk.new w _ _ _ rfl).alloc _, Blk.new _ _ _ _ (by simp [go_sem]), ((Below.refl _ _).alloc (Nat.le_refl _) _).alloc (by simp [go_sem]) _⟩ ?_
  rintro W ⟨g0, g1, hb⟩
  have G0 := Lib.hid g0; have G1 := Lib.hid g1; have HB := Lib.hid hb
  have p0 := g0.get 0; have q0 := g1.get 0
  simp at p0 q0
  clear g0 g1 hb
  go_wp2_with fail
  go_loopw [5] (fun i wr => ∃ j : Nat, j ≤ n ∧ i = .int .i64 j ∧ EqAt zeroKR xs ys j ∧ (Blk wr w.heap.size 27 #[.slice A n cap, vr] ∧ Blk wr (w.heap.size + 1) 27 #[.slice A' n cap', ur]) ∧ Below w.heap.size w wr) (fun i _ => n - (intOf i).toNat)
  case atStart => exact ⟨0, Nat.zero_le _, rfl, EqAt.zero _ _ _, ⟨G0.out, G1.out⟩, HB.out⟩
  case round =>
    obtain ⟨j, hj, rfl, he, ⟨g0, g1⟩, hbl⟩ := hrel
    clear p0 q0 G0 G1 HB
    have HQ := Lib.hid he
    clear he
    have G0 := Lib.hid g0; have G1 := Lib.hid g1
    have p0 := g0.get 0; have q0 := g1.get 0
    simp at p0 q0
    clear g0 g1
    by_cases hlt : j < n
    · obtain ⟨b, off, rfl, hb, hc⟩ := H4.out (by omega)
      obtain ⟨b', off', rfl, hb', hc'⟩ := K4.out (by omega)
      obtain ⟨x0, x1⟩ := atKRow ((hc j hlt).below hb hbl)
      obtain ⟨y0, y1⟩ := atKRow ((hc' j hlt).below hb' hbl)
      have HB := Lib.hid hbl
      clear hc hc' hbl
      by_cases hr : xs.getD j zeroKR = ys.getD j zeroKR
      · have HN := Lib.hid (HQ.out.next hr)
        rw [← hr] at y0 y1
        generalize xs.getD j zeroKR = r at *
        have hne := fun W => eqn_kr W r
        clear hr
        obtain ⟨key, kind⟩ := r
        unfold KR.v at hne
        simp only at *
        go_wp2_with fail
        go_quiet (fail)
        go_wp2_with fail
        go_roundw
        case rel => exact ⟨j + 1, by omega, by go_num, HN.out, ⟨G0.out.below ⟨rfl, rfl, rfl, Nat.le_refl _, fun _ _ => rfl⟩, G1.out.below ⟨rfl, rfl, rfl, Nat.le_refl _, fun _ _ => rfl⟩⟩, HB.out.trans ⟨rfl, rfl, rfl, Nat.le_refl _, fun _ _ => rfl⟩⟩
        case measure => simp [intOf]; omega
      · have HN := Lib.hid (HNO.out (eq_ne hr))
        generalize xs.getD j zeroKR = r at *
        generalize ys.getD j zeroKR = r' at *
        have hne := fun W => neq_kr W r r' hr
        clear hr
        obtain ⟨key, kind⟩ := r
        obtain ⟨key', kind'⟩ := r'
        unfold KR.v at hne
        simp only at *
        go_wp2_with fail
        go_quiet (fail)
        go_wp2_with fail
        go_ret
        exact ⟨ret_bool HN.out.symm, HB.out.trans ⟨rfl, rfl, rfl, Nat.le_refl _, fun _ _ => rfl⟩⟩
    · have hjn : j = n := by omega
      subst hjn
      have HN := Lib.hid (HALL.out HQ.out)
      have HB := Lib.hid hbl
      have p1 := G0.out.get 1; have q1 := G1.out.get 1
      simp at p1 q1
      clear hbl
      go_wp2_with fail
      refine (CR _ (HR.out.below HB.out) (KR1.out.below HB.out)).out.mono ?_
      rintro e w2 ⟨rfl, hb2⟩
      replace HB := Lib.hid (HB.out.trans (hb2.mono HB.out.size))
      clear hb2 p1 q1
      go_wp2_with fail
      go_ret
      exact ⟨ret_bool HN.out.symm, HB.out⟩
end Go.Proofs.YtbhhhakfjmaglaaGreat
