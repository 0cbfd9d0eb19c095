/-
  FnExactModelOf: what the function answers is what its model answers, at every argument: the law's call returns true and each argument reads afterwards as before. The library's own variables begin as the program's text lays them, which the card ties.
-/
import Derived.Test.YtlnkjpacjbhncaaGreatDoorCards
import Derived.Test.YtlnkjpacjbhncaaGreatDoorTie
import Derived.Test.YtlnkjpacjbhncaaGreatDoorSerJ
import Derived.Test.YtlnkjpacjbhncaaGreatDoorSerB
import Derived.Test.YtlnkjpacjbhncaaGreatDoorZc
import Derived.Test.YtlnkjpacjbhncaaGreatDoorZb
import Derived.WalkKit
import Derived.ProofKit
import Derived.OpenShut
import Derived.ShutString
import Derived.ChangeOld
import Derived.Below
namespace Go.Proofs.YtlnkjpacjbhncaaGreatDoor.fnExactModelOf
open Go.ChangeShapes Go.WideShapes Go.ChangeAt Go.RowKit Go.Proofs.YtlnkjpacjbhncaaGreatDoor.M
open Go.ChangeMaps (open_string shut_string)
set_option linter.unusedVariables false
set_option linter.unusedSimpArgs false
theorem laidOut : laidOutB Tryz.prog = true := by kernel_rfl

set_option maxRecDepth 100000 in
set_option maxHeartbeats 4000000 in
theorem walk (w : World) (a0 : Option Addr) (len0 cap0 : Nat) (z0 : List Int) (w0 : IntsArg w (.slice a0 len0 cap0) z0) (f0 : Fit z0)  :
    Calls Tryz.prog 3 #[.slice a0 len0 cap0] w fun e w' => e = .returned (.bool true) ∧ Below w.heap.size w w' := by
  have hlen0 : z0.length = len0 := by obtain ⟨A, c, e, _⟩ := w0; injection e with _ e2; exact e2.symm
  by_cases hb0 : (1048576 : Int) < (len0 : Int)
  · have hbig : decide ((1048576 : Int) < (len0 : Int)) = true := by rw [decide_eq_true]; omega
    clear w0 hlen0
    go_enter Tryz.func3, Tryz.ntmps3
    go_wp2_with fail
    go_ret
    exact ⟨rfl, Below.refl _ _⟩
  · have hbig0 : decide ((1048576 : Int) < (len0 : Int)) = false := by rw [decide_eq_false]; omega
    have hl0 : z0.length ≤ 1048576 := by omega
    have HIN0 := Lib.hid w0
    have hu := Tryz.underlying26
    have H1 := fun W v h => Lib.hid (sModelOf_any W v z0 h)
    have H2 := fun W v h => Lib.hid (iModelOf_any W v z0 h)
    have hy := moV_small z0
    have HEM := fun W a b c d h k => Lib.hid (eqModel_same W (moV z0) a b c d h k)
    obtain ⟨n3, hn3⟩ : ∃ n : Int, n = 1 + 2 * ((moV z0).keys.length : Int) + 10 * ((moV z0).rows.length : Int) := ⟨_, rfl⟩
    have d3 : decide (n3 < 0) = false := by rw [decide_eq_false_iff_not]; omega
    have hk0 : decide (1 + (z0.length : Int) < 0) = false := by rw [decide_eq_false_iff_not]; omega
    have HMG := fun W b e k r h => Lib.hid (markE_any W b e (moV z0) k r 1 n3 h (by omega) (by omega) (by omega) (by omega) hn3)
    have HHG := fun W b k r (h : MoOwn W b (markMo 1 (moV z0)) k r) => Lib.hid (show Calls Tryz.prog 11 #[.agg #[k, r], .int .i64 1] W (Gives (.int .i64 n3) W) from by rw [hn3]; exact heldModel_any W b (moV z0) k r 1 h (by omega) (by omega) (by omega) (by omega))
    clear hn3 hy
    generalize moV z0 = p at *
    have B0 := Lib.hid (Below.refl w.heap.size w)
    clear w0 hlen0
    go_enter Tryz.func3, Tryz.ntmps3
    have HSx := Lib.hid B0.out.size
    go_wp2_with fail
    refine (toIntS_any w _ z0 (HIN0.out.below B0.out) hl0).mono ?_
    rintro e u1 ⟨s1, rfl, ho, hb⟩
    replace B0 := Lib.hid (B0.out.trans (hb.mono B0.out.size))
    have Os1 := Lib.hid ho
    clear ho hb HSx
    have HB9 := Lib.hid B0.out.size
    go_wp2_with fail
    refine ((H1 u1 _ Os1.out.ints).out).mono ?_
    rintro e u2 ⟨kw, rw, rfl, ho, hb⟩
    replace Os1 := Lib.hid (Os1.out.below hb)
    replace B0 := Lib.hid (B0.out.trans (hb.mono B0.out.size))
    obtain ⟨bw, hb9⟩ : ∃ b, b = u1.heap.size := ⟨_, rfl⟩
    rw [← hb9] at ho HB9
    have HBw := HB9
    clear HB9
    clear hb hb9
    have hoc := moOne ho.keys ho.rows
    have HOX := Lib.hid (MoE.of ho)
    clear ho
    go_upto_region 4 with ((with_reducible show wpList _ _ _ _ _ _); refine wpList_store_row rfl 26 _ _ rfl u2.heap.size #[kw, rw] rfl rfl 26 _ (Blk.new u2 u2.heap.size 26 #[.slice none 0 0, .slice none 0 0] rfl) (by kernel_rfl) rfl hoc ?_)
    refine wp_gen (fun X => Blk X u2.heap.size 26 #[kw, rw] ∧ Below u2.heap.size u2 X) ⟨setRow_heap _ _ _ _ _ _ (Blk.new u2 u2.heap.size 26 #[.slice none 0 0, .slice none 0 0] rfl), below_setRow' (below_oneM u2 _) (Nat.le_refl _) _⟩ ?_
    rintro u3 ⟨hx, hb⟩
    replace Os1 := Lib.hid (Os1.out.below hb)
    replace B0 := Lib.hid (B0.out.trans (hb.mono B0.out.size))
    have Ow := Lib.hid (HOX.out.below hb)
    have Gw := Lib.hid hx
    have HGw := Lib.hid (show u2.heap.size < u3.heap.size from hx.lt)
    clear hx hb hoc HOX
    obtain ⟨gw, hg9⟩ : ∃ g, g = u2.heap.size := ⟨_, rfl⟩
    rw [← hg9] at Ow Gw HGw ⊢
    clear hg9
    clear Os1
    have HSx := Lib.hid B0.out.size
    go_wp2_with fail
    refine (toIntS_any u3 _ z0 (HIN0.out.below B0.out) hl0).mono ?_
    rintro e u4 ⟨x0, rfl, ho, hb⟩
    replace Ow := Lib.hid (Ow.out.below hb)
    replace Gw := Lib.hid (Gw.out.below hb)
    replace B0 := Lib.hid (B0.out.trans (hb.mono B0.out.size))
    have Ox0 := Lib.hid ho
    have Lx0 := Lib.hid (show ∀ k, x0.ownBlock = some k → w.heap.size ≤ k from fun k hk => Nat.le_trans HSx.out (ho.base_le k hk))
    have HXW := Lib.hid (show ∀ k, x0.ownBlock = some k → gw ≤ k from fun k hk => Nat.le_trans (Nat.le_of_lt HGw.out) (ho.base_le k hk))
    have HXL := Lib.hid (show ∀ k, x0.ownBlock = some k → k < u4.heap.size from ho.lt)
    clear ho hb HSx
    have HB9 := Lib.hid B0.out.size
    have HW9 := Lib.hid (show gw ≤ u4.heap.size from Nat.le_of_lt Gw.out.lt)
    go_wp2_with fail
    refine ((H2 u4 _ Ox0.out.ints).out).mono ?_
    rintro e u5 ⟨kg, rg, rfl, ho, hb⟩
    replace Ox0 := Lib.hid (Ox0.out.below hb)
    replace Ow := Lib.hid (Ow.out.below hb)
    replace Gw := Lib.hid (Gw.out.below hb)
    replace B0 := Lib.hid (B0.out.trans (hb.mono B0.out.size))
    obtain ⟨bg, hb9⟩ : ∃ b, b = u4.heap.size := ⟨_, rfl⟩
    rw [← hb9] at ho HB9 HW9 HXL
    have HBg := HB9
    clear HB9
    have HWg := HW9
    clear HW9
    clear hb hb9
    have hoc := moOne ho.keys ho.rows
    have HOX := Lib.hid (MoE.of ho)
    clear ho
    go_upto_region 6 with ((with_reducible show wpList _ _ _ _ _ _); refine wpList_store_row rfl 26 _ _ rfl u5.heap.size #[kg, rg] rfl rfl 26 _ (Blk.new u5 u5.heap.size 26 #[.slice none 0 0, .slice none 0 0] rfl) (by kernel_rfl) rfl hoc ?_)
    refine wp_gen (fun X => Blk X u5.heap.size 26 #[kg, rg] ∧ Below u5.heap.size u5 X) ⟨setRow_heap _ _ _ _ _ _ (Blk.new u5 u5.heap.size 26 #[.slice none 0 0, .slice none 0 0] rfl), below_setRow' (below_oneM u5 _) (Nat.le_refl _) _⟩ ?_
    rintro u6 ⟨hx, hb⟩
    replace Ox0 := Lib.hid (Ox0.out.below hb)
    replace Ow := Lib.hid (Ow.out.below hb)
    replace Gw := Lib.hid (Gw.out.below hb)
    replace B0 := Lib.hid (B0.out.trans (hb.mono B0.out.size))
    have Og := Lib.hid (HOX.out.below hb)
    have Gg := Lib.hid hx
    have HGg := Lib.hid (show u5.heap.size < u6.heap.size from hx.lt)
    clear hx hb hoc HOX
    obtain ⟨gg, hg9⟩ : ∃ g, g = u5.heap.size := ⟨_, rfl⟩
    rw [← hg9] at Og Gg HGg ⊢
    clear hg9
    go_wp2_with ((with_reducible show wpList _ _ _ _ _ _); first | refine wpList_load_row rfl 26 _ rfl (gg) rfl 26 #[kg, rg] (0, 0) _ Gg.out hu rfl (by kernel_rfl) ?_ | refine wpList_load_row rfl 26 _ rfl (gw) rfl 26 #[kw, rw] (0, 0) _ Gw.out hu rfl (by kernel_rfl) ?_ | refine wpList_load_rowM 26 _ rfl (gg) rfl 26 #[kg, rg] (0, 0) _ Gg.out hu rfl (by kernel_rfl) rfl ?_ | refine wpList_load_rowM 26 _ rfl (gw) rfl 26 #[kw, rw] (0, 0) _ Gw.out hu rfl (by kernel_rfl) rfl ?_)
    refine ((HEM _ _ _ _ _ Og.out.m.win Ow.out.m.win).out).mono ?_
    rintro e u7 ⟨rfl, hb⟩
    replace Ox0 := Lib.hid (Ox0.out.below hb)
    replace Ow := Lib.hid (Ow.out.below hb)
    replace Og := Lib.hid (Og.out.below hb)
    replace Gw := Lib.hid (Gw.out.below hb)
    replace Gg := Lib.hid (Gg.out.below hb)
    replace B0 := Lib.hid (B0.out.trans (hb.mono B0.out.size))
    clear hb
    have HSx := Lib.hid B0.out.size
    go_wp2_with fail
    refine (toIntS_any u7 _ z0 (HIN0.out.below B0.out) hl0).mono ?_
    rintro e u8 ⟨s3, rfl, ho, hb⟩
    replace Ox0 := Lib.hid (Ox0.out.below hb)
    replace Ow := Lib.hid (Ow.out.below hb)
    replace Og := Lib.hid (Og.out.below hb)
    replace Gw := Lib.hid (Gw.out.below hb)
    replace Gg := Lib.hid (Gg.out.below hb)
    replace B0 := Lib.hid (B0.out.trans (hb.mono B0.out.size))
    have Os3 := Lib.hid ho
    clear ho hb HSx
    go_wp2_with fail
    refine (eqIntS_same u8 _ _ z0 Ox0.out.ints Os3.out.ints).mono ?_
    rintro e u9 hq
    obtain ⟨rfl, hb⟩ := hq.below
    replace Ox0 := Lib.hid (Ox0.out.below hb)
    replace Os3 := Lib.hid (Os3.out.below hb)
    replace Ow := Lib.hid (Ow.out.below hb)
    replace Og := Lib.hid (Og.out.below hb)
    replace Gw := Lib.hid (Gw.out.below hb)
    replace Gg := Lib.hid (Gg.out.below hb)
    replace B0 := Lib.hid (B0.out.trans (hb.mono B0.out.size))
    clear hb hq
    clear Os3
    go_wp2_with fail
    refine (markIntS_any u9 _ _ z0 1 Ox0.out (by omega) (by omega) (by omega)).mono ?_
    rintro e u10 ⟨rfl, ho, hg⟩
    have hc := Chg.of_grown hg (fun i h => h)
    replace Ow := Lib.hid (Ow.out.chg hc (fun i s => .inr (HXW.out i s)))
    replace Og := Lib.hid (Og.out.chg hc (fun i s => .inl (HXL.out i s)))
    replace Gw := Lib.hid (Gw.out.grownI15 Ox0.out (by decide) hg)
    replace Gg := Lib.hid (Gg.out.grownI15 Ox0.out (by decide) hg)
    replace B0 := Lib.hid (B0.out.grown hg B0.out.size (fun k hk => Lx0.out k hk))
    clear ho hg hc
    clear Ox0
    go_wp2_with ((with_reducible show wpList _ _ _ _ _ _); first | refine wpList_load_row rfl 26 _ rfl (gg) rfl 26 #[kg, rg] (0, 0) _ Gg.out hu rfl (by kernel_rfl) ?_ | refine wpList_load_row rfl 26 _ rfl (gw) rfl 26 #[kw, rw] (0, 0) _ Gw.out hu rfl (by kernel_rfl) ?_ | refine wpList_load_rowM 26 _ rfl (gg) rfl 26 #[kg, rg] (0, 0) _ Gg.out hu rfl (by kernel_rfl) rfl ?_ | refine wpList_load_rowM 26 _ rfl (gw) rfl 26 #[kw, rw] (0, 0) _ Gw.out hu rfl (by kernel_rfl) rfl ?_)
    refine ((HEM _ _ _ _ _ Og.out.m.win Ow.out.m.win).out).mono ?_
    rintro e u11 ⟨rfl, hb⟩
    replace Ow := Lib.hid (Ow.out.below hb)
    replace Og := Lib.hid (Og.out.below hb)
    replace Gw := Lib.hid (Gw.out.below hb)
    replace Gg := Lib.hid (Gg.out.below hb)
    replace B0 := Lib.hid (B0.out.trans (hb.mono B0.out.size))
    clear hb
    go_wp2_with ((with_reducible show wpList _ _ _ _ _ _); first | refine wpList_load_row rfl 26 _ rfl (gg) rfl 26 #[kg, rg] (0, 0) _ Gg.out hu rfl (by kernel_rfl) ?_)
    refine (HMG _ _ _ _ _ Og.out).out.mono ?_
    rintro e u12 ⟨rfl, hm, hc⟩
    replace Gw := Lib.hid (Gw.out.chgM Og.out.m (by decide) (by decide) hc)
    replace Gg := Lib.hid (Gg.out.chgM Og.out.m (by decide) (by decide) hc)
    replace Ow := Lib.hid (Ow.out.chg hc (fun i s => .inr (Nat.le_trans HWg.out (Og.out.m.bl_ge i s))))
    replace B0 := Lib.hid (Chg.to_below B0.out hc B0.out.size (fun i s => Nat.le_trans HBg.out (Og.out.m.bl_ge i s)))
    replace Og := Lib.hid hm
    clear hm hc
    go_wp2_with ((with_reducible show wpList _ _ _ _ _ _); first | refine wpList_load_row rfl 26 _ rfl (gg) rfl 26 #[kg, rg] (0, 0) _ Gg.out hu rfl (by kernel_rfl) ?_)
    refine ((HHG _ _ _ _ Og.out.m).out).mono ?_
    rintro e u13 ⟨rfl, hb⟩
    replace Ow := Lib.hid (Ow.out.below hb)
    replace Og := Lib.hid (Og.out.below hb)
    replace Gw := Lib.hid (Gw.out.below hb)
    replace Gg := Lib.hid (Gg.out.below hb)
    replace B0 := Lib.hid (B0.out.trans (hb.mono B0.out.size))
    clear hb
    have HSx := Lib.hid B0.out.size
    go_wp2_with fail
    refine (toIntS_any u13 _ z0 (HIN0.out.below B0.out) hl0).mono ?_
    rintro e u14 ⟨s11, rfl, ho, hb⟩
    replace Ow := Lib.hid (Ow.out.below hb)
    replace Og := Lib.hid (Og.out.below hb)
    replace Gw := Lib.hid (Gw.out.below hb)
    replace Gg := Lib.hid (Gg.out.below hb)
    replace B0 := Lib.hid (B0.out.trans (hb.mono B0.out.size))
    have Os11 := Lib.hid ho
    clear ho hb HSx
    have HB9 := Lib.hid B0.out.size
    have HW9 := Lib.hid (show gw ≤ u14.heap.size from Nat.le_of_lt Gw.out.lt)
    go_wp2_with fail
    refine ((H2 u14 _ Os11.out.ints).out).mono ?_
    rintro e u15 ⟨kh, rh, rfl, ho, hb⟩
    replace Os11 := Lib.hid (Os11.out.below hb)
    replace Ow := Lib.hid (Ow.out.below hb)
    replace Og := Lib.hid (Og.out.below hb)
    replace Gw := Lib.hid (Gw.out.below hb)
    replace Gg := Lib.hid (Gg.out.below hb)
    replace B0 := Lib.hid (B0.out.trans (hb.mono B0.out.size))
    obtain ⟨bh, hb9⟩ : ∃ b, b = u14.heap.size := ⟨_, rfl⟩
    rw [← hb9] at ho HB9 HW9
    have HBh := HB9
    clear HB9
    have HWh := HW9
    clear HW9
    clear hb hb9
    have hoc := moOne ho.keys ho.rows
    have HOX := Lib.hid (MoE.of ho)
    clear ho
    go_upto_region 23 with ((with_reducible show wpList _ _ _ _ _ _); refine wpList_store_row rfl 26 _ _ rfl u15.heap.size #[kh, rh] rfl rfl 26 _ (Blk.new u15 u15.heap.size 26 #[.slice none 0 0, .slice none 0 0] rfl) (by kernel_rfl) rfl hoc ?_)
    refine wp_gen (fun X => Blk X u15.heap.size 26 #[kh, rh] ∧ Below u15.heap.size u15 X) ⟨setRow_heap _ _ _ _ _ _ (Blk.new u15 u15.heap.size 26 #[.slice none 0 0, .slice none 0 0] rfl), below_setRow' (below_oneM u15 _) (Nat.le_refl _) _⟩ ?_
    rintro u16 ⟨hx, hb⟩
    replace Os11 := Lib.hid (Os11.out.below hb)
    replace Ow := Lib.hid (Ow.out.below hb)
    replace Og := Lib.hid (Og.out.below hb)
    replace Gw := Lib.hid (Gw.out.below hb)
    replace Gg := Lib.hid (Gg.out.below hb)
    replace B0 := Lib.hid (B0.out.trans (hb.mono B0.out.size))
    have Oh := Lib.hid (HOX.out.below hb)
    have Gh := Lib.hid hx
    have HGh := Lib.hid (show u15.heap.size < u16.heap.size from hx.lt)
    clear hx hb hoc HOX
    obtain ⟨gh, hg9⟩ : ∃ g, g = u15.heap.size := ⟨_, rfl⟩
    rw [← hg9] at Oh Gh HGh ⊢
    clear hg9
    clear Os11
    go_wp2_with ((with_reducible show wpList _ _ _ _ _ _); first | refine wpList_load_row rfl 26 _ rfl (gh) rfl 26 #[kh, rh] (0, 0) _ Gh.out hu rfl (by kernel_rfl) ?_ | refine wpList_load_row rfl 26 _ rfl (gw) rfl 26 #[kw, rw] (0, 0) _ Gw.out hu rfl (by kernel_rfl) ?_ | refine wpList_load_rowM 26 _ rfl (gh) rfl 26 #[kh, rh] (0, 0) _ Gh.out hu rfl (by kernel_rfl) rfl ?_ | refine wpList_load_rowM 26 _ rfl (gw) rfl 26 #[kw, rw] (0, 0) _ Gw.out hu rfl (by kernel_rfl) rfl ?_)
    refine ((HEM _ _ _ _ _ Oh.out.m.win Ow.out.m.win).out).mono ?_
    rintro e u17 ⟨rfl, hb⟩
    replace Ow := Lib.hid (Ow.out.below hb)
    replace Og := Lib.hid (Og.out.below hb)
    replace Oh := Lib.hid (Oh.out.below hb)
    replace Gw := Lib.hid (Gw.out.below hb)
    replace Gg := Lib.hid (Gg.out.below hb)
    replace Gh := Lib.hid (Gh.out.below hb)
    replace B0 := Lib.hid (B0.out.trans (hb.mono B0.out.size))
    clear hb
    clear Oh
    clear Gh
    go_wp2_with ((with_reducible show wpList _ _ _ _ _ _); first | refine wpList_load_row rfl 26 _ rfl (gg) rfl 26 #[kg, rg] (0, 0) _ Gg.out hu rfl (by kernel_rfl) ?_)
    refine ((HHG _ _ _ _ Og.out.m).out).mono ?_
    rintro e u18 ⟨rfl, hb⟩
    replace Ow := Lib.hid (Ow.out.below hb)
    replace Og := Lib.hid (Og.out.below hb)
    replace Gw := Lib.hid (Gw.out.below hb)
    replace Gg := Lib.hid (Gg.out.below hb)
    replace B0 := Lib.hid (B0.out.trans (hb.mono B0.out.size))
    clear hb
    go_wp2_with fail
    go_ret
    exact ⟨rfl, B0.out⟩

set_option maxRecDepth 100000 in
theorem contract (H : Type) (enc : TypeId × Value → H) (W : World) (base : Nat) (args : Array Value) (ds gs : List (DataW H)) (before : List MemPlace)
    (hval : ∀ (j : Nat) t v, Tryz.f3.params[j]? = some t → args[j]? = some v → Value.okWide Tryz.prog W .any base t v)
    (hW : DataW.Whole enc Tryz.prog Tryz.f3.params.toList Rows.fnExactModelOfSpec.vars false W args.toList ds gs before) (hL : laidMetH Tryz.prog Rows.fnExactModelOfRow.laid W) :
    Calls Tryz.prog 3 args W fun e W' => ∃ v, e = .returned v ∧ Rows.fnExactModelOfSpec.post enc Tryz.prog Tryz.f3 false true false false W args v W' := by
  have hW' := hW
  obtain ⟨p, q, hA0, hV, rfl, hfz, hnd⟩ := hW
  have hA : DataW.TrodAll enc Tryz.prog W 0 (fun _ => true) true Tryz.f3.params.toList args.toList ds p := hA0
  rw [Tryz.params3] at hA hval
  obtain ⟨v0, vs0, d0, ds0, p0, q0, hargs, rfl, rfl, h0, r0⟩ := trodAll_cons hA
  obtain ⟨rfl, rfl, rfl⟩ := trodAll_nil r0
  obtain rfl : args = #[v0] := by cases args; simp_all
  obtain ⟨rfl, rfl⟩ := trodVars_none hV
  obtain ⟨a0, len0, cap0, rfl⟩ := okWide_slice Tryz.underlying22 (hval 0 22 v0 rfl rfl)
  have k0 := h0
  have lt0 : ∀ x ∈ p0, x.block < W.heap.size := by obtain ⟨m, hm⟩ := k0; exact DataW.trod_lt m _ _ _ hm
  obtain ⟨z0, w0, f0⟩ : ∃ zs, IntsArg W (.slice a0 len0 cap0) zs ∧ Fit zs := by
    obtain ⟨fuel, hf⟩ := h0
    rcases open_ints Tryz.underlying22 Tryz.underlying3 (by kernel_rfl) hf with ⟨hcs, _⟩ | ⟨x, l, c, zs, hcs, _, hl, hm, hz, _, hcell, hwz⟩
    · simp [Value.cells] at hcs
      obtain ⟨rfl, rfl, rfl⟩ := hcs
      exact ⟨[], IntsArg.nil _, fun z hz => by cases hz⟩
    · simp [Value.cells] at hcs
      obtain ⟨rfl, rfl, rfl⟩ := hcs
      exact ⟨_, IntsArg.of_cells hl hm (by simpa using hz) hcell, Fit.of_wf hwz⟩
  clear hA0
  refine (walk W a0 len0 cap0 z0 w0 f0 ).mono fun e W' ⟨he, bel⟩ => ?_
  subst he
  exact ⟨_, rfl, _, _, _, [], _, [], hW', trodAll_mk1 (shut_bool Tryz.underlying4 _), (trodAll_cons_mk (Below.trod laidOut (by kernel_rfl) (of_decide_eq_true (by kernel_rfl)) k0 bel lt0) trodAll_mk0), rfl, bel.frame _, fun h => by cases h⟩

theorem laid_met (os : Os) : laidMet Tryz.prog Rows.fnExactModelOfRow.laid ((laidWorld os).forCall (fun _ _ => 0) ⟨#[], #[.slice none 0 0], []⟩).memory :=
  laidMet_of_run' 8 (by kernel_rfl) (by kernel_rfl)
theorem reads (os : Os) {H : Type} (enc : TypeId × Value → H) : ∃ places, DataW.whole enc Tryz.prog ((laidWorld os).forCall (fun _ _ => 0) ⟨#[], #[.slice none 0 0], []⟩).memory Tryz.f3.params.toList Rows.fnExactModelOfSpec.vars false #[Value.slice none 0 0].toList 8 = some ([.nil], [], places) :=
  ⟨[], by kernel_rfl⟩

set_option maxRecDepth 100000 in
theorem lifted (os : Os) (started : os.Started) (H : Type) (enc : TypeId × Value → H) (F : Stop.Interp) :
    ReturnsInHanded {} Tryz.checked os 3 .any ((OpenSpec.ofChange Rows.fnExactModelOfSpec).preRow enc Tryz.prog Tryz.f3 Rows.fnExactModelOfRow.domain false Rows.fnExactModelOfRow.laid) (((OpenSpec.ofChange Rows.fnExactModelOfSpec).at F).post enc Tryz.prog Tryz.f3 false true false false) := by
  obtain ⟨places, hx⟩ := reads os enc
  refine returnsInHanded_of_row (C := Tryz.checked) (s := OpenSpec.ofChange Rows.fnExactModelOfSpec) own started (by kernel_rfl) Tryz.func3
    (witness_row_at (enc := enc) (C := Tryz.checked) false (laidWorld os) #[.slice none 0 0] rfl (by kernel_rfl) (by kernel_rfl) (by kernel_rfl)
      (OpenSpec.preRow_of_cond 8 hx (by kernel_rfl) (fun k hk => by cases hk) (by kernel_rfl) (laid_met os))) ?_
  intro W base args ds gs before hval hW _ _ _ hL _ _
  exact contract H enc W base args ds gs before hval hW hL

theorem said : Rows.FnExactModelOfSaid :=
  OpenClaim.holds_of_cond 3 Tryz.f3 rfl rfl rfl rfl rfl rfl rfl ⟨rfl, rfl, rfl, rfl, rfl⟩ rfl rfl rfl rfl rfl (by kernel_rfl) Tryz.func3 (by kernel_rfl)
    (of_decide_eq_true (by kernel_rfl)) (by unfold Func.isWrapper; first | (rw [if_pos (by decide +kernel)]; kernel_rfl) | (rw [if_neg (by decide +kernel)]; exact ⟨rfl, rfl⟩))
    (fun os started H enc _ F => by rw [OpenClaim.pre_eq_preRow]; exact lifted os started H enc F)

theorem plain (f : FuncId) (fn : Func) (hf : Tryz.pinned.checked.prog.funcNamed Rows.fnExactModelOfRow.func = some f) (hfn : Tryz.pinned.checked.prog.funcs[f]? = some fn) :
    Rows.fnExactModelOfCard.stood.looks = Tryz.pinned.checked.prog.looks [] ∧ ∀ (j : Nat) t, fn.params[j]? = some t → Tryz.pinned.checked.prog.wantsStandIn t = false := by
  obtain rfl : f = 3 := Option.some.inj ((show Tryz.prog.funcNamed Rows.fnExactModelOfRow.func = some 3 by kernel_rfl).symm.trans hf) |>.symm
  obtain rfl : fn = Tryz.f3 := (Option.some.inj (Tryz.func3.symm.trans hfn)).symm
  refine ⟨by kernel_rfl, fun j t ht => ?_⟩
  rw [Tryz.params3] at ht
  have hm : t = 22 := by first | simpa using Array.mem_of_getElem? ht | (have h := Array.mem_of_getElem? ht; clear ht; simp at h; rcases h with h <;> subst h <;> simp)
  rcases hm with rfl
  · exact (show Tryz.prog.wantsStandIn 22 = false by kernel_rfl)

end Go.Proofs.YtlnkjpacjbhncaaGreatDoor.fnExactModelOf
namespace Go.Proofs.YtlnkjpacjbhncaaGreatDoor
theorem fnExactModelOf_holds : Rows.FnExactModelOfCardSaid :=
  Claim7.holds_tied_plain_at .later [] _ _ _ _ fnExactModelOf.said (fun _ h => by cases h) (by kernel_rfl) (fun _ h => by cases h) fnExactModelOf_row_tie rfl ⟨rfl, rfl⟩ (by kernel_rfl) rfl fnExactModelOf.plain (by kernel_rfl)
end Go.Proofs.YtlnkjpacjbhncaaGreatDoor
