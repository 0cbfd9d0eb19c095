/-
  Texts of this seat, laid together.
-/
import Derived.Test.YtnlepnfdgdbkoaaGreatDoorYMeb
import Derived.Test.YtnlepnfdgdbkoaaGreatDoorYZb
import Derived.WalkKit
import Derived.Below
import Derived.OpenShut
import Derived.ProofKit
import Derived.Test.YtnlepnfdgdbkoaaGreatDoorTie
import Derived.ChangeOld
import Derived.ShutString
import Derived.Test.YtnlepnfdgdbkoaaGreatDoorCards
namespace Go.Proofs.YtnlepnfdgdbkoaaGreatDoor.fnBlocked
open Go.ChangeShapes Go.WideShapes Go.ChangeAt Go.RowKit Go.Proofs.YtnlepnfdgdbkoaaGreatDoor.M
open Go.ChangeMaps (open_string shut_string)
set_option linter.unusedVariables false
set_option linter.unusedSimpArgs false
theorem laidOut : laidOutB Tryz.prog = true := by kernel_rfl
set_option maxRecDepth 100000 in
set_option maxHeartbeats 4000000 in
theorem walk (w : World) (a0 : Option Addr) (len0 cap0 : Nat) (z0 : List Int) (w0 : IsRow w a0 len0 cap0 z0)  :
    Calls Tryz.prog 5 #[.slice a0 len0 cap0] w fun e w' => e = .returned (.bool true) ∧ Below w.heap.size w w' := by
  have hk := CodeIn.of_row w0
  have hulw := Tryz.underlying33
  by_cases hb : (1048576 : Int) < (len0 : Int)
  · have hbig : decide ((1048576 : Int) < (len0 : Int)) = true := by rw [decide_eq_true]; omega
    clear hk w0
    go_enter Tryz.func5, Tryz.ntmps5
    go_wp2_with fail
    refine (nBig _ _ _ w).mono ?_
    rintro e w1 ⟨rfl, hb1⟩
    have B1 := Lib.hid hb1
    clear hb1
    go_wp2_with fail
    go_ret
    exact ⟨rfl, B1.out⟩
  have hbig : decide ((1048576 : Int) < (len0 : Int)) = false := by rw [decide_eq_false]; omega
  have hl : len0 ≤ 1048576 := by omega
  have hv0 := atV_bd hk 0
  have hv1 := atV_bd hk 1
  have HA0 := Lib.hid (fun W (hb : Below w.heap.size w W) => show Calls Tryz.prog 13 #[.slice a0 len0 cap0, .int .i64 0] W (Same W (.int .i64 (atV ⟨a0, len0, cap0, z0⟩ 0 : Nat))) from at_any W ⟨a0, len0, cap0, z0⟩ (hk.below hb) hl 0 (by decide))
  have HA1 := Lib.hid (fun W (hb : Below w.heap.size w W) => show Calls Tryz.prog 13 #[.slice a0 len0 cap0, .int .i64 1] W (Same W (.int .i64 (atV ⟨a0, len0, cap0, z0⟩ 1 : Nat))) from at_any W ⟨a0, len0, cap0, z0⟩ (hk.below hb) hl 1 (by decide))
  generalize atV ⟨a0, len0, cap0, z0⟩ 0 = va at *
  generalize atV ⟨a0, len0, cap0, z0⟩ 1 = vq at *
  clear hk w0 hl
  have HV := Lib.hid (show 1 ≤ (1 : Int) + (va : Int) ∧ (1 : Int) + (va : Int) ≤ 256 by omega)
  have HVQ := Lib.hid hv1
  go_enter Tryz.func5, Tryz.ntmps5
  go_wp2_with fail
  refine (nBig _ _ _ w).mono ?_
  rintro e w1 ⟨rfl, hb1⟩
  have B1 := Lib.hid hb1
  clear hb1 hb
  go_wp2_with fail
  refine (HA0.out _ B1.out).mono ?_
  rintro e w2 ⟨rfl, rfl⟩
  obtain ⟨w3, hmk, hgq, hb3⟩ := make_queues w1
  have GQ := Lib.hid hgq
  have HB := Lib.hid (B1.out.trans (hb3.mono B1.out.size))
  have HQL := Lib.hid (show w.heap.size ≤ w1.heap.size ∧ w1.heap.size < w3.heap.size from ⟨B1.out.size, hgq.lt⟩)
  clear hgq hb3
  go_upto_region 5 with fail
  generalize hvv : (1 : Int) + (va : Int) = v at *
  clear hv0 hmk
  refine wp_gen (fun W => Blk W w1.heap.size 46 #[.slice none 0 0, .slice none 0 0, .slice none 0 0, .slice none 0 0] ∧ Below w.heap.size w W ∧ w1.heap.size < W.heap.size) ⟨GQ.out, HB.out, HQL.out.2⟩ ?_
  have HL0 := Lib.hid HQL.out.1
  clear GQ HB HQL B1
  generalize w1.heap.size = gq at *
  rintro W ⟨hq, hb, hs⟩
  have hqa := hq.alloc (.cells #[.int .i64 1, .string ⟨#[97]⟩, .int .i64 1, .int .i64 0, .int .i64 2, .string ⟨#[97]⟩, .int .i64 0, .int .i64 v] 36)
  have hra := Blk.new W W.heap.size 36 #[.int .i64 1, .string ⟨#[97]⟩, .int .i64 1, .int .i64 0, .int .i64 2, .string ⟨#[97]⟩, .int .i64 0, .int .i64 v] rfl
  have hba := hb.alloc hb.size (.cells #[.int .i64 1, .string ⟨#[97]⟩, .int .i64 1, .int .i64 0, .int .i64 2, .string ⟨#[97]⟩, .int .i64 0, .int .i64 v] 36)
  have p0 := hqa.get 0
  have f0 := hqa.frz 0
  simp at p0
  have HX := Lib.hid (And.intro hqa (And.intro hra hba))
  have HS := Lib.hid hs
  clear hq hb hs hqa hra hba
  go_upto_region 6 with fail
  refine wp_gen (fun X => (Blk X gq 46 #[.slice (some ⟨W.heap.size, 0, none⟩) 2 2, .slice none 0 0, .slice none 0 0, .slice none 0 0] ∧ Blk X W.heap.size 36 #[.int .i64 1, .string ⟨#[97]⟩, .int .i64 1, .int .i64 0, .int .i64 2, .string ⟨#[97]⟩, .int .i64 0, .int .i64 v]) ∧ Below w.heap.size w X ∧ W.heap.size < X.heap.size) ⟨⟨HX.out.1.store 0 _, HX.out.2.1.far _ _ _ (by have := HS.out; omega)⟩, HX.out.2.2.setCell HL0.out _, by simp⟩ ?_
  clear p0 f0 HX
  have HS1 := HS
  clear HS
  generalize W.heap.size = gr at *
  rintro X ⟨⟨hq, hr⟩, hb, hs⟩
  have hqa := hq.alloc (.cells #[.int .i64 3, .string ⟨#[]⟩, .int .i64 0, .int .i64 0] 36)
  have hra := hr.alloc (.cells #[.int .i64 3, .string ⟨#[]⟩, .int .i64 0, .int .i64 0] 36)
  have hfa := Blk.new X X.heap.size 36 #[.int .i64 3, .string ⟨#[]⟩, .int .i64 0, .int .i64 0] rfl
  have hba := hb.alloc hb.size (.cells #[.int .i64 3, .string ⟨#[]⟩, .int .i64 0, .int .i64 0] 36)
  have p3 := hqa.get 3
  have f3 := hqa.frz 3
  simp at p3
  have HX := Lib.hid (And.intro hqa (And.intro hra (And.intro hfa hba)))
  have HS2 := Lib.hid hs
  clear hq hr hb hs hqa hra hfa hba
  go_upto_region 7 with fail
  refine wp_gen (fun Y => OwnQ Y w.heap.size (.slice (some ⟨gq, 0, none⟩) 4 4) (todoQ v) ∧ Below w.heap.size w Y) ⟨queueB (HX.out.1.store 3 _) (HX.out.2.1.far _ _ _ (by have := HS1.out; omega)) (HX.out.2.2.1.far _ _ _ (by have := HS1.out; have := HS2.out; omega)) HL0.out HS1.out HS2.out, HX.out.2.2.2.setCell HL0.out _⟩ ?_
  clear p3 f3 HX HS1 HS2
  rintro Y ⟨hq, hb⟩
  have HNW := iWorldNew_any Y w.heap.size _ (todoQ v) hq (queueB_fit HV.out)
  rw [show worldNewV (todoQ v) = sA v 0 from newB HV.out] at HNW
  have HB := Lib.hid hb
  clear hq hb
  go_wp2_with fail
  refine HNW.mono ?_
  rintro e V ⟨vc, vj, vt, vl, rfl, hp, hb⟩
  obtain ⟨κ1, ht1, hk1⟩ := hp.wt
  replace HB := Lib.hid (HB.out.trans (hb.mono HB.out.size))
  clear hp hb HNW hk1
  have hone := ht1.one
  have HT := Lib.hid ht1
  have hnew := ht1.new0 (Nat.le_refl V.heap.size)
  clear ht1
  go_upto_region 8 with ((with_reducible show wpList _ _ _ _ _ _); refine wpList_store_row rfl 33 _ _ rfl V.heap.size (worVals (sA v 0) vc vj vt vl) rfl rfl 33 _ (Blk.new V V.heap.size 33 #[.slice none 0 0, .slice none 0 0, .slice none 0 0, .slice none 0 0, .int .i64 0, .int .i64 0] rfl) (by kernel_rfl) rfl hone ?_)
  refine wp_gen (fun X => BoxB w X V.heap.size (sA v 0)) ⟨⟨κ1, vc, vj, vt, vl, setRow_heap _ _ _ _ _ _ (Blk.new V V.heap.size 33 #[.slice none 0 0, .slice none 0 0, .slice none 0 0, .slice none 0 0, .int .i64 0, .int .i64 0] rfl), (HT.out.below (below_oneL V _)).setRow (.inl hnew) _, hnew⟩, below_setRow' (HB.out.alloc HB.out.size _) HB.out.size _⟩ ?_
  have HLG := Lib.hid HB.out.size
  clear HT HB hone hnew
  generalize V.heap.size = g at *
  rintro Z0 hbx0
  have HBX := Lib.hid hbx0
  clear hbx0
  go_wp2_with fail
  go_loopw [6] (fun x wr => ∃ k : Nat, k ≤ 9 ∧ x = .int .i64 k ∧ BoxB w wr g (sA v k)) (fun x _ => 9 - (intOf x).toNat)
  case atStart => exact ⟨0, Nat.zero_le _, rfl, HBX.out⟩
  case round =>
    clear HBX
    obtain ⟨k, hk, rfl, hbx⟩ := hrel
    by_cases hlt : k < 9
    · have hltz : decide ((k : Int) < 9) = true := by rw [decide_eq_true]; omega
      obtain ⟨⟨κ, vc, vj, vt, vl, hblk, hwt, hg0⟩, hbel⟩ := hbx
      have ht := sA_tiny HV.out k (by omega)
      have HC := iStep_any wr κ (sA v k) vc vj vt vl 0 hwt ht.small ht.fit
      rw [show stepV (sA v k) 0 = sA v (k + 1) from rfl] at HC
      have G := Lib.hid hblk
      have HB := Lib.hid hbel
      clear hblk hbel hwt ht
      go_wp2_with ((with_reducible show wpList _ _ _ _ _ _); refine wpList_load_row rfl 33 _ rfl g rfl 33 (worVals (sA v k) vc vj vt vl) (0, 0) _ G.out hulw rfl (by kernel_rfl) ?_)
      refine HC.mono ?_
      rintro e X ⟨κ2, vc2, vj2, vt2, vl2, rfl, hwt2, hk2, hb2⟩
      have hone := hwt2.one
      have HN := Lib.hid (BoxB.next G.out HB.out HLG.out hwt2 hk2 hb2)
      have G2 := Lib.hid (G.out.below hb2)
      clear hwt2 hk2 hb2 HC G HB
      go_wp2_with ((with_reducible show wpList _ _ _ _ _ _); refine wpList_store_row rfl 33 _ _ rfl g (worVals (sA v (k + 1)) vc2 vj2 vt2 vl2) rfl rfl 33 _ G2.out (by kernel_rfl) rfl hone ?_)
      go_roundw
      case rel => exact ⟨k + 1, by omega, by go_num, HN.out⟩
      case measure => simp [intOf]; omega
    · obtain rfl : k = 9 := by omega
      obtain ⟨hj, hpc⟩ := lookA HV.out
      obtain ⟨bj, capj, q1, q6⟩ := hbx.read hj 0 (by decide)
      rw [hpc, Nat.zero_mul, Nat.zero_add] at q6
      have HBX := Lib.hid hbx
      clear hbx hj hpc
      go_wp2_with fail
      go_loopw [7] (fun x wr2 => ∃ n : Nat, n ≤ 20 + vq ∧ x = .int .i64 n ∧ BoxB w wr2 g (sB v n)) (fun x _ => 20 + vq - (intOf x).toNat)
      case atStart => exact ⟨0, Nat.zero_le _, rfl, HBX.out⟩
      case round =>
        clear HBX q1 q6
        obtain ⟨n, hn, rfl, hbx⟩ := hrel
        have hvq := HVQ.out
        by_cases hlt : n < 20 + vq
        · have hltz : decide ((n : Int) < 20 + (vq : Int)) = true := by rw [decide_eq_true]; omega
          obtain ⟨⟨κ, vc, vj, vt, vl, hblk, hwt, hg0⟩, hbel⟩ := hbx
          have ht := sB_tiny HV.out n (by omega)
          have HC := iStep_any wr κ (sB v n) vc vj vt vl 3 hwt ht.small ht.fit
          rw [show stepV (sB v n) 3 = sB v (n + 1) from rfl] at HC
          have G := Lib.hid hblk
          have HB := Lib.hid hbel
          clear hblk hbel hwt ht
          go_wp2_with fail
          refine (HA1.out _ HB.out).mono ?_
          rintro e wz ⟨rfl, rfl⟩
          go_wp2_with ((with_reducible show wpList _ _ _ _ _ _); refine wpList_load_row rfl 33 _ rfl g rfl 33 (worVals (sB v n) vc vj vt vl) (0, 0) _ G.out hulw rfl (by kernel_rfl) ?_)
          refine HC.mono ?_
          rintro e X ⟨κ2, vc2, vj2, vt2, vl2, rfl, hwt2, hk2, hb2⟩
          have hone := hwt2.one
          have HN := Lib.hid (BoxB.next G.out HB.out HLG.out hwt2 hk2 hb2)
          have G2 := Lib.hid (G.out.below hb2)
          clear hwt2 hk2 hb2 HC G HB
          go_wp2_with ((with_reducible show wpList _ _ _ _ _ _); refine wpList_store_row rfl 33 _ _ rfl g (worVals (sB v (n + 1)) vc2 vj2 vt2 vl2) rfl rfl 33 _ G2.out (by kernel_rfl) rfl hone ?_)
          go_roundw
          case rel => exact ⟨_, _, _, _, _, _, _, _, _, _, ⟨n + 1, by omega, by go_num, HN.out⟩, rfl⟩
          case measure => simp [intOf]; omega
        · obtain rfl : n = 20 + vq := by omega
          have hltz : decide ((((20 + vq : Nat) : Int)) < 20 + (vq : Int)) = false := by rw [decide_eq_false_iff_not]; omega
          obtain ⟨hj, hpc, hrep⟩ := lookB HV.out (18 + vq) (by omega)
          have hte := sB_tiny HV.out (20 + vq) (by omega)
          have HEND := Lib.hid (fun zs hz => endB HV.out (18 + vq) (by omega) zs hz)
          rw [show 18 + vq + 2 = 20 + vq by omega] at hj hpc hrep HEND
          have hlog := sB_log HV.out (20 + vq) (by omega)
          generalize sB v (20 + vq) = s at *
          generalize hnn : (((20 + vq : Nat) : Int)) = nn at *
          obtain ⟨bj, capj, q1, q6⟩ := hbx.read hj 3 (by decide)
          rw [hpc, show 3 * 18 + 6 = 60 from rfl] at q6
          obtain ⟨⟨κ, vc, vj, vt, vl, hblk, hwt, hg0⟩, hbel⟩ := hbx
          have HREP := Lib.hid (fun W (hb : Below wr.heap.size wr W) => iReportsY_any W 0 wr.heap.size s vc vj vt vl (OwnY.below hwt.t.l.x hb) hte.small)
          rw [hrep] at HREP
          have G := Lib.hid hblk
          have HB := Lib.hid hbel
          have HT := Lib.hid hwt
          have HTE := Lib.hid hte
          have HLOG := Lib.hid hlog
          clear hblk hbel hwt hj hpc hrep hte hn hlt hvq
          go_wp2_with fail
          refine (HA1.out _ HB.out).mono ?_
          rintro e wz ⟨rfl, rfl⟩
          go_wp2_with ((with_reducible show wpList _ _ _ _ _ _); first | refine wpList_load_row rfl 33 _ rfl g rfl 33 (worVals s vc vj vt vl) (0, 0) _ G.out hulw rfl (by kernel_rfl) ?_ | refine wpList_load_rowB 33 _ rfl g rfl 33 (worVals s vc vj vt vl) (0, 0) _ G.out hulw rfl (by kernel_rfl) rfl ?_)
          refine (HREP.out wr (Below.refl _ _)).mono ?_
          rintro e W2 ⟨v70, rfl, ho, hb⟩
          obtain ⟨A70, c70, rfl⟩ := ownRS_none ho
          have G2 := Lib.hid (G.out.below hb)
          have HB2 := Lib.hid (HB.out.trans (hb.mono HB.out.size))
          have HT2 := Lib.hid (HT.out.below hb)
          clear q1 q6 ho hb G HB HT HREP
          go_wp2_with ((with_reducible show wpList _ _ _ _ _ _); first | refine wpList_load_row rfl 33 _ rfl g rfl 33 (worVals s vc vj vt vl) (0, 0) _ G2.out hulw rfl (by kernel_rfl) ?_)
          obtain ⟨zs, hzs⟩ : ∃ zs, zs = turnL 4000 := ⟨_, rfl⟩
          obtain ⟨r, hr1, hr2, hr3⟩ := HEND.out zs hzs
          have HFI := iFinishW_any W2 κ s vc vj vt vl HT2.out HTE.out.small HTE.out.fit (fun j hj => ⟨(HTE.out.fit.jobs j hj).keys, (HTE.out.fit.jobs j hj).raw⟩) zs hzs (by have := HLOG.out; omega)
          generalize runS s zs = s2 at *
          clear hzs HEND
          refine HFI.mono ?_
          rintro e W3 ⟨κ2, vc2, vj2, vt2, vl2, rfl, hwt2, hk2, hb2⟩
          have HB3 := Lib.hid (HB2.out.trans (hb2.mono HB2.out.size))
          have HR2 := iReportsY_any W3 0 W3.heap.size s2 vc2 vj2 vt2 vl2 hwt2.t.l.x hr3
          rw [hr1] at HR2
          clear hwt2 hk2 hb2 HFI HB2 G2 HT2 hr1 hr3
          go_wp2_with fail
          refine HR2.mono ?_
          rintro e W4 ⟨v76, rfl, ho, hb⟩
          obtain ⟨b8, c8, bi, ci, rfl, q8, q9⟩ := ownRS_one ho
          rw [hr2] at q9
          have HB4 := Lib.hid (HB3.out.trans (hb.mono HB3.out.size))
          clear ho hb HB3 HR2 hr2
          go_wp2_with fail
          go_ret
          exact ⟨by simp, HB4.out⟩
set_option maxRecDepth 100000 in
theorem contract (H : Type) (enc : TypeId × Value → H) (W : World) (base : Nat) (args : Array Value) (ds gs : List (DataW H)) (before : List MemPlace)
    (hval : ∀ (j : Nat) t v, Tryz.f5.params[j]? = some t → args[j]? = some v → Value.okWide Tryz.prog W .any base t v)
    (hW : DataW.Whole enc Tryz.prog Tryz.f5.params.toList Rows.fnBlockedSpec.vars false W args.toList ds gs before) (hL : laidMetH Tryz.prog Rows.fnBlockedRow.laid W) :
    Calls Tryz.prog 5 args W fun e W' => ∃ v, e = .returned v ∧ Rows.fnBlockedSpec.post enc Tryz.prog Tryz.f5 false true false false W args v W' := by
  have hW' := hW
  obtain ⟨p, q, hA0, hV, rfl, hfz, hnd⟩ := hW
  have hA : DataW.TrodAll enc Tryz.prog W 0 (fun _ => true) true Tryz.f5.params.toList args.toList ds p := hA0
  rw [Tryz.params5] at hA hval
  obtain ⟨v0, vs0, d0, ds0, p0, q0, hargs, rfl, rfl, h0, r0⟩ := trodAll_cons hA
  obtain ⟨rfl, rfl, rfl⟩ := trodAll_nil r0
  obtain rfl : args = #[v0] := by cases args; simp_all
  obtain ⟨rfl, rfl⟩ := trodVars_none hV
  obtain ⟨a0, len0, cap0, rfl⟩ := okWide_slice Tryz.underlying22 (hval 0 22 v0 rfl rfl)
  have k0 := h0
  have lt0 : ∀ x ∈ p0, x.block < W.heap.size := by obtain ⟨m, hm⟩ := k0; exact DataW.trod_lt m _ _ _ hm
  obtain ⟨z0, w0⟩ : ∃ zs, IsRow W a0 len0 cap0 zs := by
    obtain ⟨fuel, hf⟩ := h0
    rcases open_ints Tryz.underlying22 Tryz.underlying5 (by kernel_rfl) hf with ⟨hcs, _⟩ | ⟨x, l, c, zs, hcs, _, hl, hm, hz, _, hcell, hwz⟩
    · simp [Value.cells] at hcs
      obtain ⟨rfl, rfl, rfl⟩ := hcs
      exact ⟨[], .inl ⟨rfl, rfl, rfl, rfl⟩⟩
    · simp [Value.cells] at hcs
      obtain ⟨rfl, rfl, rfl⟩ := hcs
      exact ⟨zs, .inr ⟨_, rfl, hl, hm, by simpa using hz, hcell, hwz⟩⟩
  clear hA0
  refine (walk W a0 len0 cap0 z0 w0 ).mono fun e W' ⟨he, bel⟩ => ?_
  subst he
  exact ⟨_, rfl, _, _, _, [], _, [], hW', trodAll_mk1 (shut_bool Tryz.underlying4 _), (trodAll_cons_mk (Below.trod laidOut (by kernel_rfl) (of_decide_eq_true (by kernel_rfl)) k0 bel lt0) trodAll_mk0), rfl, bel.frame _, fun h => by cases h⟩
theorem laid_met (os : Os) : laidMet Tryz.prog Rows.fnBlockedRow.laid ((laidWorld os).forCall (fun _ _ => 0) ⟨#[], #[.slice none 0 0], []⟩).memory :=
  laidMet_of_run' 8 (by kernel_rfl) (by kernel_rfl)
theorem reads (os : Os) {H : Type} (enc : TypeId × Value → H) : ∃ places, DataW.whole enc Tryz.prog ((laidWorld os).forCall (fun _ _ => 0) ⟨#[], #[.slice none 0 0], []⟩).memory Tryz.f5.params.toList Rows.fnBlockedSpec.vars false #[Value.slice none 0 0].toList 8 = some ([.nil], [], places) :=
  ⟨[], by kernel_rfl⟩
set_option maxRecDepth 100000 in
theorem lifted (os : Os) (started : os.Started) (H : Type) (enc : TypeId × Value → H) (F : Stop.Interp) :
    ReturnsInHanded {} Tryz.checked os 5 .any ((OpenSpec.ofChange Rows.fnBlockedSpec).preRow enc Tryz.prog Tryz.f5 Rows.fnBlockedRow.domain false Rows.fnBlockedRow.laid) (((OpenSpec.ofChange Rows.fnBlockedSpec).at F).post enc Tryz.prog Tryz.f5 false true false false) := by
  obtain ⟨places, hx⟩ := reads os enc
  refine returnsInHanded_of_row (C := Tryz.checked) (s := OpenSpec.ofChange Rows.fnBlockedSpec) own started (by kernel_rfl) Tryz.func5
    (witness_row_at (enc := enc) (C := Tryz.checked) false (laidWorld os) #[.slice none 0 0] rfl (by kernel_rfl) (by kernel_rfl) (by kernel_rfl)
      (OpenSpec.preRow_of_cond 8 hx (by kernel_rfl) (fun k hk => by cases hk) (by kernel_rfl) (laid_met os))) ?_
  intro W base args ds gs before hval hW _ _ _ hL _ _
  exact contract H enc W base args ds gs before hval hW hL
theorem said : Rows.FnBlockedSaid :=
  OpenClaim.holds_of_cond 5 Tryz.f5 rfl rfl rfl rfl rfl rfl rfl ⟨rfl, rfl, rfl, rfl, rfl⟩ rfl rfl rfl rfl rfl (by kernel_rfl) Tryz.func5 (by kernel_rfl)
    (of_decide_eq_true (by kernel_rfl)) (by unfold Func.isWrapper; first | (rw [if_pos (by decide +kernel)]; kernel_rfl) | (rw [if_neg (by decide +kernel)]; exact ⟨rfl, rfl⟩))
    (fun os started H enc _ F => by rw [OpenClaim.pre_eq_preRow]; exact lifted os started H enc F)
theorem plain (f : FuncId) (fn : Func) (hf : Tryz.pinned.checked.prog.funcNamed Rows.fnBlockedRow.func = some f) (hfn : Tryz.pinned.checked.prog.funcs[f]? = some fn) :
    Rows.fnBlockedCard.stood.looks = Tryz.pinned.checked.prog.looks [] ∧ ∀ (j : Nat) t, fn.params[j]? = some t → Tryz.pinned.checked.prog.wantsStandIn t = false := by
  obtain rfl : f = 5 := Option.some.inj ((show Tryz.prog.funcNamed Rows.fnBlockedRow.func = some 5 by kernel_rfl).symm.trans hf) |>.symm
  obtain rfl : fn = Tryz.f5 := (Option.some.inj (Tryz.func5.symm.trans hfn)).symm
  refine ⟨by kernel_rfl, fun j t ht => ?_⟩
  rw [Tryz.params5] at ht
  have hm : t = 22 := by first | simpa using Array.mem_of_getElem? ht | (have h := Array.mem_of_getElem? ht; clear ht; simp at h; rcases h with h <;> subst h <;> simp)
  rcases hm with rfl
  · exact (show Tryz.prog.wantsStandIn 22 = false by kernel_rfl)
end Go.Proofs.YtnlepnfdgdbkoaaGreatDoor.fnBlocked
namespace Go.Proofs.YtnlepnfdgdbkoaaGreatDoor
theorem fnBlocked_holds : Rows.FnBlockedCardSaid :=
  Claim7.holds_tied_plain_at .later [] _ _ _ _ fnBlocked.said (fun _ h => by cases h) (by kernel_rfl) (fun _ h => by cases h) fnBlocked_row_tie rfl ⟨rfl, rfl⟩ (by kernel_rfl) rfl fnBlocked.plain (by kernel_rfl)
end Go.Proofs.YtnlepnfdgdbkoaaGreatDoor
