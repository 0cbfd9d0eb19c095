/-
  FnExactFlushNow: what the function answers is what its model answers, at every argument: the law's call returns true and each argument reads afterwards as before. The library's own variables begin as the program's text lays them, which the card ties.
-/
import Derived.Test.YtmglidfnolmcaaaDoorCards
import Derived.Test.YtmglidfnolmcaaaDoorTie
import Derived.Test.YtmglidfnolmcaaaDoorNowI
import Derived.Test.YtmglidfnolmcaaaDoorRowK
import Derived.Test.YtmglidfnolmcaaaDoorZb
import Derived.Test.YtmglidfnolmcaaaDoorRwsC
import Derived.WalkKit
import Derived.ProofKit
import Derived.OpenShut
import Derived.ShutString
import Derived.ChangeOld
import Derived.Below
namespace Go.Proofs.YtmglidfnolmcaaaDoor.fnExactFlushNow
open Go.ChangeShapes Go.WideShapes Go.ChangeAt Go.RowKit Go.Proofs.YtmglidfnolmcaaaDoor.M
open Go.ChangeMaps (open_string shut_string)
set_option linter.unusedVariables false
theorem laidOut : laidOutB Tryd.prog = true := by kernel_rfl

set_option maxRecDepth 100000 in
set_option maxHeartbeats 1600000 in
theorem walk (w : World) (a0 : Option Addr) (len0 cap0 : Nat) (z0 : List Int) (w0 : IntsArg w (.slice a0 len0 cap0) z0) (f0 : Fit z0)  :
    Calls Tryd.prog 4 #[.slice a0 len0 cap0] w fun e w' => e = .returned (.bool true) ∧ Below w.heap.size w w' := by
  have hlen0 : z0.length = len0 := by obtain ⟨A, c, e, _⟩ := w0; injection e with _ e2; exact e2.symm
  by_cases hb0 : (1048576 : Int) < (len0 : Int)
  · have hbig : decide ((1048576 : Int) < (len0 : Int)) = true := by rw [decide_eq_true]; omega
    clear w0 hlen0
    go_enter Tryd.func4, Tryd.ntmps4
    go_wp2_with fail
    go_ret
    exact ⟨rfl, Below.refl _ _⟩
  · have hbig0 : decide ((1048576 : Int) < (len0 : Int)) = false := by rw [decide_eq_false]; omega
    have hl0 : z0.length ≤ 1048576 := by omega
    have HIN0 := Lib.hid w0
    have H1 := fun W v h => Lib.hid (sFlushNow_any W v z0 h hl0)
    have H2 := fun W v h => Lib.hid (iFlushNow_any W v z0 h hl0)
    have hy := flushC_len z0
    have hy2 := flushR_len z0
    generalize flushC z0 = ys at *
    generalize flushR z0 = rs at *
    have hk0 : decide (1 + (z0.length : Int) < 0) = false := by rw [decide_eq_false]; omega
    have hk_ys : decide (1 + (ys.length : Int) < 0) = false := by rw [decide_eq_false]; omega
    have hk_rs : decide (1 + (ys.length : Int) + 10 * (rs.length : Int) < 0) = false := by rw [decide_eq_false]; omega
    have hl_ys : ys.length ≤ 1048576 := by omega
    have hl_rs : rs.length ≤ 1048576 := by omega
    clear hy hy2
    have B0 := Lib.hid (Below.refl w.heap.size w)
    clear w0 hlen0
    go_enter Tryd.func4, Tryd.ntmps4
    have HS0 := Lib.hid B0.out.size
    go_wp2_with fail
    refine (toIntS_any w _ z0 (HIN0.out.below B0.out) hl0).mono ?_
    rintro e u1 ⟨s1, rfl, ho0, hb⟩
    have Ls1 := Lib.hid (show ∀ k, s1.ownBlock = some k → w.heap.size ≤ k from fun k hk => Nat.le_trans HS0.out (ho0.base_le k hk))
    have Os1 := Lib.hid ho0
    replace B0 := Lib.hid (B0.out.trans (hb.mono B0.out.size))
    clear ho0 hb
    have HS1 := Lib.hid B0.out.size
    go_wp2_with fail
    refine ((H1 u1 _ Os1.out.ints).out).mono ?_
    rintro e u2 ⟨v0, v1, rfl, ho0, ho1, hap, hb⟩
    have As1_v0 := Lib.hid (Ap.of Os1.out.lt (fun k hk => ho0.base_le k hk))
    have As1_v1 := Lib.hid (Ap.of Os1.out.lt (fun k hk => ho1.base_le k hk))
    replace Os1 := Lib.hid (Os1.out.below hb)
    have Lv0 := Lib.hid (show ∀ k, v0.ownBlock = some k → w.heap.size ≤ k from fun k hk => Nat.le_trans HS1.out (ho0.base_le k hk))
    have Ov0 := Lib.hid ho0
    have Lv1 := Lib.hid (show ∀ k, v1.ownBlock = some k → w.heap.size ≤ k from fun k hk => Nat.le_trans HS1.out (ho1.base_le k hk))
    have Ov1 := Lib.hid ho1
    have Av0_v1 := Lib.hid (And.intro (Ap.symm (show Ap v1 v0 from hap)) (show Ap v1 v0 from hap))
    replace B0 := Lib.hid (B0.out.trans (hb.mono B0.out.size))
    clear ho0 ho1 hb hap
    clear Os1
    have HS2 := Lib.hid B0.out.size
    go_wp2_with fail
    refine (toIntS_any u2 _ z0 (HIN0.out.below B0.out) hl0).mono ?_
    rintro e u3 ⟨x0, rfl, ho0, hb⟩
    have Av0_x0 := Lib.hid (Ap.of Ov0.out.lt (fun k hk => ho0.base_le k hk))
    have Av1_x0 := Lib.hid (Ap.of Ov1.out.lt (fun k hk => ho0.base_le k hk))
    replace Ov0 := Lib.hid (Ov0.out.below hb)
    replace Ov1 := Lib.hid (Ov1.out.below hb)
    have Lx0 := Lib.hid (show ∀ k, x0.ownBlock = some k → w.heap.size ≤ k from fun k hk => Nat.le_trans HS2.out (ho0.base_le k hk))
    have Ox0 := Lib.hid ho0
    replace B0 := Lib.hid (B0.out.trans (hb.mono B0.out.size))
    clear ho0 hb
    have HS3 := Lib.hid B0.out.size
    go_wp2_with fail
    refine ((H2 u3 _ Ox0.out.ints).out).mono ?_
    rintro e u4 ⟨g0, g1, rfl, ho0, ho1, hap, hb⟩
    have Av0_g0 := Lib.hid (Ap.of Ov0.out.lt (fun k hk => ho0.base_le k hk))
    have Av1_g0 := Lib.hid (Ap.of Ov1.out.lt (fun k hk => ho0.base_le k hk))
    have Ax0_g0 := Lib.hid (Ap.of Ox0.out.lt (fun k hk => ho0.base_le k hk))
    have Av0_g1 := Lib.hid (Ap.of Ov0.out.lt (fun k hk => ho1.base_le k hk))
    have Av1_g1 := Lib.hid (Ap.of Ov1.out.lt (fun k hk => ho1.base_le k hk))
    have Ax0_g1 := Lib.hid (Ap.of Ox0.out.lt (fun k hk => ho1.base_le k hk))
    replace Ov0 := Lib.hid (Ov0.out.below hb)
    replace Ov1 := Lib.hid (Ov1.out.below hb)
    replace Ox0 := Lib.hid (Ox0.out.below hb)
    have Lg0 := Lib.hid (show ∀ k, g0.ownBlock = some k → w.heap.size ≤ k from fun k hk => Nat.le_trans HS3.out (ho0.base_le k hk))
    have Og0 := Lib.hid ho0
    have Lg1 := Lib.hid (show ∀ k, g1.ownBlock = some k → w.heap.size ≤ k from fun k hk => Nat.le_trans HS3.out (ho1.base_le k hk))
    have Og1 := Lib.hid ho1
    have Ag0_g1 := Lib.hid (And.intro (Ap.symm (show Ap g1 g0 from hap)) (show Ap g1 g0 from hap))
    replace B0 := Lib.hid (B0.out.trans (hb.mono B0.out.size))
    clear ho0 ho1 hb hap
    go_wp2_with fail
    refine (eqIntS_same u4 _ _ ys Og0.out.ints Ov0.out.ints).mono ?_
    rintro e u5 hq
    obtain ⟨rfl, hb⟩ := hq.below
    replace Ov0 := Lib.hid (Ov0.out.below hb)
    replace Ov1 := Lib.hid (Ov1.out.below hb)
    replace Ox0 := Lib.hid (Ox0.out.below hb)
    replace Og0 := Lib.hid (Og0.out.below hb)
    replace Og1 := Lib.hid (Og1.out.below hb)
    replace B0 := Lib.hid (B0.out.trans (hb.mono B0.out.size))
    clear hb hq
    go_wp2_with fail
    refine (eqRowS_same u5 _ _ rs Og1.out.arg Ov1.out.arg).mono ?_
    rintro e u6 ⟨rfl, hb⟩
    replace Ov0 := Lib.hid (Ov0.out.below hb)
    replace Ov1 := Lib.hid (Ov1.out.below hb)
    replace Ox0 := Lib.hid (Ox0.out.below hb)
    replace Og0 := Lib.hid (Og0.out.below hb)
    replace Og1 := Lib.hid (Og1.out.below hb)
    replace B0 := Lib.hid (B0.out.trans (hb.mono B0.out.size))
    clear hb
    have HS6 := Lib.hid B0.out.size
    go_wp2_with fail
    refine (toIntS_any u6 _ z0 (HIN0.out.below B0.out) hl0).mono ?_
    rintro e u7 ⟨s6, rfl, ho0, hb⟩
    have Av0_s6 := Lib.hid (Ap.of Ov0.out.lt (fun k hk => ho0.base_le k hk))
    have Av1_s6 := Lib.hid (Ap.of Ov1.out.lt (fun k hk => ho0.base_le k hk))
    have Ax0_s6 := Lib.hid (Ap.of Ox0.out.lt (fun k hk => ho0.base_le k hk))
    have Ag0_s6 := Lib.hid (Ap.of Og0.out.lt (fun k hk => ho0.base_le k hk))
    have Ag1_s6 := Lib.hid (Ap.of Og1.out.lt (fun k hk => ho0.base_le k hk))
    replace Ov0 := Lib.hid (Ov0.out.below hb)
    replace Ov1 := Lib.hid (Ov1.out.below hb)
    replace Ox0 := Lib.hid (Ox0.out.below hb)
    replace Og0 := Lib.hid (Og0.out.below hb)
    replace Og1 := Lib.hid (Og1.out.below hb)
    have Ls6 := Lib.hid (show ∀ k, s6.ownBlock = some k → w.heap.size ≤ k from fun k hk => Nat.le_trans HS6.out (ho0.base_le k hk))
    have Os6 := Lib.hid ho0
    replace B0 := Lib.hid (B0.out.trans (hb.mono B0.out.size))
    clear ho0 hb
    go_wp2_with fail
    refine (eqIntS_same u7 _ _ z0 Ox0.out.ints Os6.out.ints).mono ?_
    rintro e u8 hq
    obtain ⟨rfl, hb⟩ := hq.below
    replace Ov0 := Lib.hid (Ov0.out.below hb)
    replace Ov1 := Lib.hid (Ov1.out.below hb)
    replace Ox0 := Lib.hid (Ox0.out.below hb)
    replace Og0 := Lib.hid (Og0.out.below hb)
    replace Og1 := Lib.hid (Og1.out.below hb)
    replace Os6 := Lib.hid (Os6.out.below hb)
    replace B0 := Lib.hid (B0.out.trans (hb.mono B0.out.size))
    clear hb hq
    clear Os6
    go_wp2_with fail
    refine (markIntS_any u8 _ _ z0 1 Ox0.out (by omega) (by omega) (by omega)).mono ?_
    rintro e u9 ⟨rfl, ho, hg⟩
    replace Ov0 := Lib.hid (Ov0.out.keptA hg Av0_x0.out.1)
    replace Ov1 := Lib.hid (Ov1.out.keptA hg Av1_x0.out.1)
    replace Og0 := Lib.hid (Og0.out.keptA hg Ax0_g0.out.2)
    replace Og1 := Lib.hid (Og1.out.keptA hg Ax0_g1.out.2)
    replace B0 := Lib.hid (B0.out.grown hg B0.out.size (fun k hk => Lx0.out k hk))
    replace Ox0 := Lib.hid ho
    clear ho hg
    clear Ox0
    go_wp2_with fail
    refine (eqIntS_same u9 _ _ ys Og0.out.ints Ov0.out.ints).mono ?_
    rintro e u10 hq
    obtain ⟨rfl, hb⟩ := hq.below
    replace Ov0 := Lib.hid (Ov0.out.below hb)
    replace Ov1 := Lib.hid (Ov1.out.below hb)
    replace Og0 := Lib.hid (Og0.out.below hb)
    replace Og1 := Lib.hid (Og1.out.below hb)
    replace B0 := Lib.hid (B0.out.trans (hb.mono B0.out.size))
    clear hb hq
    go_wp2_with fail
    refine (eqRowS_same u10 _ _ rs Og1.out.arg Ov1.out.arg).mono ?_
    rintro e u11 ⟨rfl, hb⟩
    replace Ov0 := Lib.hid (Ov0.out.below hb)
    replace Ov1 := Lib.hid (Ov1.out.below hb)
    replace Og0 := Lib.hid (Og0.out.below hb)
    replace Og1 := Lib.hid (Og1.out.below hb)
    replace B0 := Lib.hid (B0.out.trans (hb.mono B0.out.size))
    clear hb
    go_wp2_with fail
    refine (markIntS_any u11 _ _ ys 1 Og0.out (by omega) (by omega) (by omega)).mono ?_
    rintro e u12 ⟨rfl, ho, hg⟩
    replace Ov0 := Lib.hid (Ov0.out.keptA hg Av0_g0.out.1)
    replace Ov1 := Lib.hid (Ov1.out.keptA hg Av1_g0.out.1)
    replace Og1 := Lib.hid (Og1.out.keptA hg Ag0_g1.out.2)
    replace B0 := Lib.hid (B0.out.grown hg B0.out.size (fun k hk => Lg0.out k hk))
    replace Og0 := Lib.hid ho
    clear ho hg
    go_wp2_with fail
    refine (markRowS_any u12 _ _ rs (1 + (ys.length : Int)) Og1.out (by omega) (by omega) (by omega)).mono ?_
    rintro e u13 ⟨rfl, ho, hg⟩
    replace Ov0 := Lib.hid (Ov0.out.keptA hg Av0_g1.out.1)
    replace Ov1 := Lib.hid (Ov1.out.keptA hg Av1_g1.out.1)
    replace Og0 := Lib.hid (Og0.out.keptA hg Ag0_g1.out.1)
    replace B0 := Lib.hid (B0.out.grown hg B0.out.size (fun k hk => Lg1.out k hk))
    have Pg1 := Lib.hid ho
    have Og1_ := Lib.hid (show OwnR u13 _ g1 (marksRow ((1 + (ys.length : Int))) _) from by have h := ho; exact h)
    clear Og1
    have Og1 := Og1_
    clear Og1_ Pg1
    clear ho hg
    go_wp2_with fail
    refine (heldIntS_any _ _ (1) ys.length Og0.out.ints (by omega) (by omega) (by omega)).mono ?_
    rintro e w' ⟨rfl, rfl⟩
    go_wp2_with fail
    refine (heldRowS_any u13 _ _ ((1 + (ys.length : Int))) rs.length Og1.out (by omega) (by omega) (by omega)).mono ?_
    rintro e u14 ⟨rfl, hb⟩
    replace Ov0 := Lib.hid (Ov0.out.below hb)
    replace Ov1 := Lib.hid (Ov1.out.below hb)
    replace Og0 := Lib.hid (Og0.out.below hb)
    replace Og1 := Lib.hid (Og1.out.below hb)
    replace B0 := Lib.hid (B0.out.trans (hb.mono B0.out.size))
    clear hb
    have HS14 := Lib.hid B0.out.size
    go_wp2_with fail
    refine (toIntS_any u14 _ z0 (HIN0.out.below B0.out) hl0).mono ?_
    rintro e u15 ⟨s11, rfl, ho0, hb⟩
    have Av0_s11 := Lib.hid (Ap.of Ov0.out.lt (fun k hk => ho0.base_le k hk))
    have Av1_s11 := Lib.hid (Ap.of Ov1.out.lt (fun k hk => ho0.base_le k hk))
    have Ag0_s11 := Lib.hid (Ap.of Og0.out.lt (fun k hk => ho0.base_le k hk))
    have Ag1_s11 := Lib.hid (Ap.of Og1.out.lt (fun k hk => ho0.base_le k hk))
    replace Ov0 := Lib.hid (Ov0.out.below hb)
    replace Ov1 := Lib.hid (Ov1.out.below hb)
    replace Og0 := Lib.hid (Og0.out.below hb)
    replace Og1 := Lib.hid (Og1.out.below hb)
    have Ls11 := Lib.hid (show ∀ k, s11.ownBlock = some k → w.heap.size ≤ k from fun k hk => Nat.le_trans HS14.out (ho0.base_le k hk))
    have Os11 := Lib.hid ho0
    replace B0 := Lib.hid (B0.out.trans (hb.mono B0.out.size))
    clear ho0 hb
    have HS15 := Lib.hid B0.out.size
    go_wp2_with fail
    refine ((H2 u15 _ Os11.out.ints).out).mono ?_
    rintro e u16 ⟨h0, h1, rfl, ho0, ho1, hap, hb⟩
    have Av0_h0 := Lib.hid (Ap.of Ov0.out.lt (fun k hk => ho0.base_le k hk))
    have Av1_h0 := Lib.hid (Ap.of Ov1.out.lt (fun k hk => ho0.base_le k hk))
    have Ag0_h0 := Lib.hid (Ap.of Og0.out.lt (fun k hk => ho0.base_le k hk))
    have Ag1_h0 := Lib.hid (Ap.of Og1.out.lt (fun k hk => ho0.base_le k hk))
    have As11_h0 := Lib.hid (Ap.of Os11.out.lt (fun k hk => ho0.base_le k hk))
    have Av0_h1 := Lib.hid (Ap.of Ov0.out.lt (fun k hk => ho1.base_le k hk))
    have Av1_h1 := Lib.hid (Ap.of Ov1.out.lt (fun k hk => ho1.base_le k hk))
    have Ag0_h1 := Lib.hid (Ap.of Og0.out.lt (fun k hk => ho1.base_le k hk))
    have Ag1_h1 := Lib.hid (Ap.of Og1.out.lt (fun k hk => ho1.base_le k hk))
    have As11_h1 := Lib.hid (Ap.of Os11.out.lt (fun k hk => ho1.base_le k hk))
    replace Ov0 := Lib.hid (Ov0.out.below hb)
    replace Ov1 := Lib.hid (Ov1.out.below hb)
    replace Og0 := Lib.hid (Og0.out.below hb)
    replace Og1 := Lib.hid (Og1.out.below hb)
    replace Os11 := Lib.hid (Os11.out.below hb)
    have Lh0 := Lib.hid (show ∀ k, h0.ownBlock = some k → w.heap.size ≤ k from fun k hk => Nat.le_trans HS15.out (ho0.base_le k hk))
    have Oh0 := Lib.hid ho0
    have Lh1 := Lib.hid (show ∀ k, h1.ownBlock = some k → w.heap.size ≤ k from fun k hk => Nat.le_trans HS15.out (ho1.base_le k hk))
    have Oh1 := Lib.hid ho1
    have Ah0_h1 := Lib.hid (And.intro (Ap.symm (show Ap h1 h0 from hap)) (show Ap h1 h0 from hap))
    replace B0 := Lib.hid (B0.out.trans (hb.mono B0.out.size))
    clear ho0 ho1 hb hap
    go_wp2_with fail
    refine (eqIntS_same u16 _ _ ys Oh0.out.ints Ov0.out.ints).mono ?_
    rintro e u17 hq
    obtain ⟨rfl, hb⟩ := hq.below
    replace Ov0 := Lib.hid (Ov0.out.below hb)
    replace Ov1 := Lib.hid (Ov1.out.below hb)
    replace Og0 := Lib.hid (Og0.out.below hb)
    replace Og1 := Lib.hid (Og1.out.below hb)
    replace Os11 := Lib.hid (Os11.out.below hb)
    replace Oh0 := Lib.hid (Oh0.out.below hb)
    replace Oh1 := Lib.hid (Oh1.out.below hb)
    replace B0 := Lib.hid (B0.out.trans (hb.mono B0.out.size))
    clear hb hq
    go_wp2_with fail
    refine (eqRowS_same u17 _ _ rs Oh1.out.arg Ov1.out.arg).mono ?_
    rintro e u18 ⟨rfl, hb⟩
    replace Ov0 := Lib.hid (Ov0.out.below hb)
    replace Ov1 := Lib.hid (Ov1.out.below hb)
    replace Og0 := Lib.hid (Og0.out.below hb)
    replace Og1 := Lib.hid (Og1.out.below hb)
    replace Os11 := Lib.hid (Os11.out.below hb)
    replace Oh0 := Lib.hid (Oh0.out.below hb)
    replace Oh1 := Lib.hid (Oh1.out.below hb)
    replace B0 := Lib.hid (B0.out.trans (hb.mono B0.out.size))
    clear hb
    go_wp2_with fail
    refine (heldIntS_any _ _ (1) ys.length Og0.out.ints (by omega) (by omega) (by omega)).mono ?_
    rintro e w' ⟨rfl, rfl⟩
    go_wp2_with fail
    refine (heldRowS_any u18 _ _ ((1 + (ys.length : Int))) rs.length Og1.out (by omega) (by omega) (by omega)).mono ?_
    rintro e u19 ⟨rfl, hb⟩
    replace Ov0 := Lib.hid (Ov0.out.below hb)
    replace Ov1 := Lib.hid (Ov1.out.below hb)
    replace Og0 := Lib.hid (Og0.out.below hb)
    replace Og1 := Lib.hid (Og1.out.below hb)
    replace Os11 := Lib.hid (Os11.out.below hb)
    replace Oh0 := Lib.hid (Oh0.out.below hb)
    replace Oh1 := Lib.hid (Oh1.out.below hb)
    replace B0 := Lib.hid (B0.out.trans (hb.mono B0.out.size))
    clear hb
    go_wp2_with fail
    go_ret
    exact ⟨rfl, B0.out⟩

set_option maxRecDepth 100000 in
theorem contract (H : Type) (enc : TypeId × Value → H) (W : World) (base : Nat) (args : Array Value) (ds gs : List (DataW H)) (before : List MemPlace)
    (hval : ∀ (j : Nat) t v, Tryd.f4.params[j]? = some t → args[j]? = some v → Value.okWide Tryd.prog W .any base t v)
    (hW : DataW.Whole enc Tryd.prog Tryd.f4.params.toList Rows.fnExactFlushNowSpec.vars false W args.toList ds gs before) (hL : laidMetH Tryd.prog Rows.fnExactFlushNowRow.laid W) :
    Calls Tryd.prog 4 args W fun e W' => ∃ v, e = .returned v ∧ Rows.fnExactFlushNowSpec.post enc Tryd.prog Tryd.f4 false true false false W args v W' := by
  have hW' := hW
  obtain ⟨p, q, hA0, hV, rfl, hfz, hnd⟩ := hW
  have hA : DataW.TrodAll enc Tryd.prog W 0 (fun _ => true) true Tryd.f4.params.toList args.toList ds p := hA0
  rw [Tryd.params4] at hA hval
  obtain ⟨v0, vs0, d0, ds0, p0, q0, hargs, rfl, rfl, h0, r0⟩ := trodAll_cons hA
  obtain ⟨rfl, rfl, rfl⟩ := trodAll_nil r0
  obtain rfl : args = #[v0] := by cases args; simp_all
  obtain ⟨rfl, rfl⟩ := trodVars_none hV
  obtain ⟨a0, len0, cap0, rfl⟩ := okWide_slice Tryd.underlying22 (hval 0 22 v0 rfl rfl)
  have k0 := h0
  have lt0 : ∀ x ∈ p0, x.block < W.heap.size := by obtain ⟨m, hm⟩ := k0; exact DataW.trod_lt m _ _ _ hm
  obtain ⟨z0, w0, f0⟩ : ∃ zs, IntsArg W (.slice a0 len0 cap0) zs ∧ Fit zs := by
    obtain ⟨fuel, hf⟩ := h0
    rcases open_ints Tryd.underlying22 Tryd.underlying3 (by kernel_rfl) hf with ⟨hcs, _⟩ | ⟨x, l, c, zs, hcs, _, hl, hm, hz, _, hcell, hwz⟩
    · simp [Value.cells] at hcs
      obtain ⟨rfl, rfl, rfl⟩ := hcs
      exact ⟨[], IntsArg.nil _, fun z hz => by cases hz⟩
    · simp [Value.cells] at hcs
      obtain ⟨rfl, rfl, rfl⟩ := hcs
      exact ⟨_, IntsArg.of_cells hl hm (by simpa using hz) hcell, Fit.of_wf hwz⟩
  clear hA0
  refine (walk W a0 len0 cap0 z0 w0 f0 ).mono fun e W' ⟨he, bel⟩ => ?_
  subst he
  exact ⟨_, rfl, _, _, _, [], _, [], hW', trodAll_mk1 (shut_bool Tryd.underlying4 _), (trodAll_cons_mk (Below.trod laidOut (by kernel_rfl) (of_decide_eq_true (by kernel_rfl)) k0 bel lt0) trodAll_mk0), rfl, bel.frame _, fun h => by cases h⟩

theorem laid_met (os : Os) : laidMet Tryd.prog Rows.fnExactFlushNowRow.laid ((laidWorld os).forCall (fun _ _ => 0) ⟨#[], #[.slice none 0 0], []⟩).memory :=
  laidMet_of_run' 8 (by kernel_rfl) (by kernel_rfl)
theorem reads (os : Os) {H : Type} (enc : TypeId × Value → H) : ∃ places, DataW.whole enc Tryd.prog ((laidWorld os).forCall (fun _ _ => 0) ⟨#[], #[.slice none 0 0], []⟩).memory Tryd.f4.params.toList Rows.fnExactFlushNowSpec.vars false #[Value.slice none 0 0].toList 8 = some ([.nil], [], places) :=
  ⟨[], by kernel_rfl⟩

set_option maxRecDepth 100000 in
theorem lifted (os : Os) (started : os.Started) (H : Type) (enc : TypeId × Value → H) (F : Stop.Interp) :
    ReturnsInHanded {} Tryd.checked os 4 .any ((OpenSpec.ofChange Rows.fnExactFlushNowSpec).preRow enc Tryd.prog Tryd.f4 Rows.fnExactFlushNowRow.domain false Rows.fnExactFlushNowRow.laid) (((OpenSpec.ofChange Rows.fnExactFlushNowSpec).at F).post enc Tryd.prog Tryd.f4 false true false false) := by
  obtain ⟨places, hx⟩ := reads os enc
  refine returnsInHanded_of_row (C := Tryd.checked) (s := OpenSpec.ofChange Rows.fnExactFlushNowSpec) own started (by kernel_rfl) Tryd.func4
    (witness_row_at (enc := enc) (C := Tryd.checked) false (laidWorld os) #[.slice none 0 0] rfl (by kernel_rfl) (by kernel_rfl) (by kernel_rfl)
      (OpenSpec.preRow_of_cond 8 hx (by kernel_rfl) (fun k hk => by cases hk) (by kernel_rfl) (laid_met os))) ?_
  intro W base args ds gs before hval hW _ _ _ hL _ _
  exact contract H enc W base args ds gs before hval hW hL

theorem said : Rows.FnExactFlushNowSaid :=
  OpenClaim.holds_of_cond 4 Tryd.f4 rfl rfl rfl rfl rfl rfl rfl ⟨rfl, rfl, rfl, rfl, rfl⟩ rfl rfl rfl rfl rfl (by kernel_rfl) Tryd.func4 (by kernel_rfl)
    (of_decide_eq_true (by kernel_rfl)) (by unfold Func.isWrapper; first | (rw [if_pos (by decide +kernel)]; kernel_rfl) | (rw [if_neg (by decide +kernel)]; exact ⟨rfl, rfl⟩))
    (fun os started H enc _ F => by rw [OpenClaim.pre_eq_preRow]; exact lifted os started H enc F)

theorem plain (f : FuncId) (fn : Func) (hf : Tryd.pinned.checked.prog.funcNamed Rows.fnExactFlushNowRow.func = some f) (hfn : Tryd.pinned.checked.prog.funcs[f]? = some fn) :
    Rows.fnExactFlushNowCard.stood.looks = Tryd.pinned.checked.prog.looks [] ∧ ∀ (j : Nat) t, fn.params[j]? = some t → Tryd.pinned.checked.prog.wantsStandIn t = false := by
  obtain rfl : f = 4 := Option.some.inj ((show Tryd.prog.funcNamed Rows.fnExactFlushNowRow.func = some 4 by kernel_rfl).symm.trans hf) |>.symm
  obtain rfl : fn = Tryd.f4 := (Option.some.inj (Tryd.func4.symm.trans hfn)).symm
  refine ⟨by kernel_rfl, fun j t ht => ?_⟩
  rw [Tryd.params4] at ht
  have hm : t = 22 := by simpa using Array.mem_of_getElem? ht
  rcases hm with rfl
  · exact (show Tryd.prog.wantsStandIn 22 = false by kernel_rfl)

end Go.Proofs.YtmglidfnolmcaaaDoor.fnExactFlushNow
namespace Go.Proofs.YtmglidfnolmcaaaDoor
theorem fnExactFlushNow_holds : Rows.FnExactFlushNowCardSaid :=
  Claim7.holds_tied_plain_at .later [] _ _ _ _ fnExactFlushNow.said (fun _ h => by cases h) (by kernel_rfl) (fun _ h => by cases h) fnExactFlushNow_row_tie rfl ⟨rfl, rfl⟩ (by kernel_rfl) rfl fnExactFlushNow.plain (by kernel_rfl)
end Go.Proofs.YtmglidfnolmcaaaDoor
