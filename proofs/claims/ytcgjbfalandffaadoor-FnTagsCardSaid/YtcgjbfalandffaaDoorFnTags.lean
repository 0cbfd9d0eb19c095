/-
  FnTags: a key with its kind is read from its number, a stamp with its value likewise, and a greater stamp is a greater number, for what is drawn from any code: the law's call returns true and each argument reads afterwards as before. The library's own variables begin as the program's text lays them, which the card ties.
-/
import Derived.Test.YtcgjbfalandffaaDoorCards
import Derived.Test.YtcgjbfalandffaaDoorTie
import Derived.Test.YtcgjbfalandffaaDoorKdU
import Derived.Test.YtcgjbfalandffaaDoorDrawKd
import Derived.Test.YtcgjbfalandffaaDoorBig
import Derived.Test.YtcgjbfalandffaaDoorCode
import Derived.Test.YtcgjbfalandffaaDoorLaidU
import Derived.WalkKit
import Derived.ProofKit
import Derived.OpenShut
import Derived.ShutString
import Derived.ChangeOld
import Derived.Below
namespace Go.Proofs.YtcgjbfalandffaaDoor.fnTags
open Go.ChangeShapes Go.WideShapes Go.ChangeAt Go.RowKit Go.Proofs.YtcgjbfalandffaaDoor.M
open Go.ChangeMaps (open_string shut_string)
set_option linter.unusedVariables false
theorem laidOut : laidOutB Tryd.prog = true := by kernel_rfl

set_option maxRecDepth 100000 in
set_option maxHeartbeats 4000000 in
theorem walk (w : World) (a0 : Option Addr) (len0 cap0 : Nat) (z0 : List Int) (w0 : IsRow w a0 len0 cap0 z0)  :
    Calls Tryd.prog 3 #[.slice a0 len0 cap0] w fun e w' => e = .returned (.bool true) ∧ Below w.heap.size w w' := by
  have hk := CodeIn.of_row w0
  by_cases hb : (1048576 : Int) < (len0 : Int)
  · have hbig : decide ((1048576 : Int) < (len0 : Int)) = true := by rw [decide_eq_true]; omega
    clear hk w0
    go_enter Tryd.func3, Tryd.ntmps3
    go_wp2_with fail
    refine (nBig _ _ _ w).mono ?_
    rintro e w1 ⟨rfl, hb1⟩
    have B1 := Lib.hid hb1
    clear hb1
    go_wp2_with fail
    go_ret
    exact ⟨rfl, B1.out⟩
  · have hbig : decide ((1048576 : Int) < (len0 : Int)) = false := by rw [decide_eq_false]; omega
    have hl : len0 ≤ 1048576 := by omega
    have HK := Lib.hid hk
    clear hk w0
    go_enter Tryd.func3, Tryd.ntmps3
    go_wp2_with fail
    refine (nBig _ _ _ w).mono ?_
    rintro e w1 ⟨rfl, hb1⟩
    have B0 := Lib.hid hb1
    have HK1 := Lib.hid (HK.out.below hb1)
    clear hb1
    go_wp2_with fail
    refine (drawTagged_some w1 ⟨a0, len0, cap0, z0⟩ HK1.out hl).mono ?_
    rintro e w2 ⟨s, k, hs5, ⟨k0, k4⟩, rfl, hb2⟩
    have hs : s.size ≤ maxLen := by unfold maxLen; omega
    replace B0 := Lib.hid (B0.out.trans (hb2.mono B0.out.size))
    obtain ⟨t0, t1⟩ := tagV_bd s k
    have H1 := fun W => Lib.hid (iTagged_any W s k hs (by omega) (by omega))
    have HS := fun W => Lib.hid (sTagged_any W s k hs)
    have HU := fun W => Lib.hid (iUntag_any W (tagV s k) (by omega) (by omega))
    clear hb2 HK1
    by_cases hok : keyOkV s = true ∧ (1 ≤ k ∧ k ≤ 3)
    · rw [untag_tag hok.1 hok.2, untT_some] at HU
      have hne : ((tagV s k) != 0) = true := by rw [bne_iff_ne, tagV_yes hok.1 hok.2]; omega
      have hne2 : ((tagV s k) == 0) = false := by rw [beq_eq_false_iff_ne, tagV_yes hok.1 hok.2]; omega
      generalize tagV s k = n at *
      clear hok
      go_wp2_with fail
      refine ((H1 w2).out).mono ?_
      rintro e w3 ⟨rfl, hb⟩
      replace B0 := Lib.hid (B0.out.trans (hb.mono B0.out.size))
      clear hb
      go_wp2_with fail
      refine ((HU w3).out).mono ?_
      rintro e w4 ⟨rfl, hb⟩
      replace B0 := Lib.hid (B0.out.trans (hb.mono B0.out.size))
      clear hb
      go_wp2_with fail
      refine ((HS w4).out).mono ?_
      rintro e w5 ⟨rfl, hb⟩
      replace B0 := Lib.hid (B0.out.trans (hb.mono B0.out.size))
      clear hb
      clear H1 HU HS
      go_wp2_with fail
      refine (drawPackGauge_some w5 ⟨a0, len0, cap0, z0⟩ (HK.out.below B0.out) hl).mono ?_
      rintro e w6 ⟨p, v, ⟨p0, p1⟩, ⟨v0, v1⟩, rfl, hb⟩
      replace B0 := Lib.hid (B0.out.trans (hb.mono B0.out.size))
      clear hb
      have HG := fun W => Lib.hid (iPackGauge_any W p v (by omega) (by omega) (by omega) (by omega))
      by_cases hg : (1 ≤ p ∧ p ≤ 65535) ∧ (0 ≤ v ∧ v ≤ 65535)
      · obtain ⟨eu, ev⟩ := ung_gauge hg
        have eg := gaugeV_yes hg
        have HUG := fun W => Lib.hid (iUnpackGauge_any W (gaugeV p v) (by omega) (by omega))
        rw [eu, ev] at HUG
        obtain ⟨⟨g1, g2⟩, g3, g4⟩ := hg
        have gne : ((gaugeV p v) != 0) = true := by rw [bne_iff_ne]; omega
        have gne2 : ((gaugeV p v) == 0) = false := by rw [beq_eq_false_iff_ne]; omega
        have HN := fun W => Lib.hid (iPackGauge_any W (p + 1) 0 (by omega) (by omega) (by omega) (by omega))
        by_cases h5 : p = 65535
        · have t5 : (p == 65535) = true := by rw [beq_iff_eq]; exact h5
          generalize gaugeV p v = gg at *
          clear eu ev eg HN h5
          go_wp2_with fail
          refine ((HG w6).out).mono ?_
          rintro e w7 ⟨rfl, hb⟩
          replace B0 := Lib.hid (B0.out.trans (hb.mono B0.out.size))
          clear hb
          go_wp2_with fail
          refine ((HUG w7).out).mono ?_
          rintro e w8 ⟨rfl, hb⟩
          replace B0 := Lib.hid (B0.out.trans (hb.mono B0.out.size))
          clear hb
          go_wp2_with fail
          go_ret
          exact ⟨rfl, B0.out⟩
        · have t5 : (p == 65535) = false := by rw [beq_eq_false_iff_ne]; exact h5
          have en : gaugeV (p + 1) 0 = (p + 1) * 65536 + 0 := gaugeV_yes ⟨by omega, by omega⟩
          have hgt : decide (gaugeV p v < gaugeV (p + 1) 0) = true := by rw [decide_eq_true]; omega
          generalize gaugeV (p + 1) 0 = gn at *
          generalize gaugeV p v = gg at *
          clear eu ev eg en h5
          go_wp2_with fail
          refine ((HG w6).out).mono ?_
          rintro e w7 ⟨rfl, hb⟩
          replace B0 := Lib.hid (B0.out.trans (hb.mono B0.out.size))
          clear hb
          go_wp2_with fail
          refine ((HUG w7).out).mono ?_
          rintro e w8 ⟨rfl, hb⟩
          replace B0 := Lib.hid (B0.out.trans (hb.mono B0.out.size))
          clear hb
          go_wp2_with fail
          refine ((HN w8).out).mono ?_
          rintro e w9 ⟨rfl, hb⟩
          replace B0 := Lib.hid (B0.out.trans (hb.mono B0.out.size))
          clear hb
          go_wp2_with fail
          have hx := atV_bd HK.out 0
          have HA := fun W h => Lib.hid (at_any W ⟨a0, len0, cap0, z0⟩ h hl 0 (by decide))
          generalize atV ⟨a0, len0, cap0, z0⟩ 0 = x at *
          refine ((HA w9 (HK.out.below B0.out)).out).mono ?_
          rintro e w' ⟨rfl, rfl⟩
          have hq0 : 0 ≤ (x : Int) % 3 := by omega
          have hq2 : (x : Int) % 3 ≤ 2 := by omega
          have HW := fun W => Lib.hid (iKindWord_any W (1 + (x : Int) % 3) (by omega) (by omega))
          have HKO := fun W => Lib.hid (iKindOf_any W (kindW (1 + (x : Int) % 3)) (by unfold maxLen; have := kindW_size (1 + (x : Int) % 3); omega))
          rw [kindOf_word ⟨by omega, by omega⟩] at HKO
          generalize kindW (1 + (x : Int) % 3) = y at *
          go_wp2_with fail
          refine ((HW w9).out).mono ?_
          rintro e w10 ⟨rfl, hb⟩
          replace B0 := Lib.hid (B0.out.trans (hb.mono B0.out.size))
          clear hb
          go_wp2_with fail
          refine ((HKO w10).out).mono ?_
          rintro e w11 ⟨rfl, hb⟩
          replace B0 := Lib.hid (B0.out.trans (hb.mono B0.out.size))
          clear hb
          go_wp2_with fail
          refine ((HA w11 (HK.out.below B0.out)).out).mono ?_
          rintro e w' ⟨rfl, rfl⟩
          go_wp2_with fail
          go_ret
          exact ⟨rfl, B0.out⟩
      · have HUG := fun W => Lib.hid (iUnpackGauge_any W 0 (by decide) (by decide))
        rw [show ungA 0 = 0 from if_neg (by decide), show ungV 0 = 0 from if_neg (by decide)] at HUG
        rw [gaugeV_no hg] at HG
        clear hg
        go_wp2_with fail
        refine ((HG w6).out).mono ?_
        rintro e w7 ⟨rfl, hb⟩
        replace B0 := Lib.hid (B0.out.trans (hb.mono B0.out.size))
        clear hb
        go_wp2_with fail
        refine ((HUG w7).out).mono ?_
        rintro e w8 ⟨rfl, hb⟩
        replace B0 := Lib.hid (B0.out.trans (hb.mono B0.out.size))
        clear hb
        go_wp2_with fail
        go_ret
        exact ⟨rfl, B0.out⟩
    · rw [tagV_no hok] at H1 HS HU t0 t1
      rw [untag_zero, untT_none] at HU
      clear hok
      go_wp2_with fail
      refine ((H1 w2).out).mono ?_
      rintro e w3 ⟨rfl, hb⟩
      replace B0 := Lib.hid (B0.out.trans (hb.mono B0.out.size))
      clear hb
      go_wp2_with fail
      refine ((HU w3).out).mono ?_
      rintro e w4 ⟨rfl, hb⟩
      replace B0 := Lib.hid (B0.out.trans (hb.mono B0.out.size))
      clear hb
      go_wp2_with fail
      refine ((HS w4).out).mono ?_
      rintro e w5 ⟨rfl, hb⟩
      replace B0 := Lib.hid (B0.out.trans (hb.mono B0.out.size))
      clear hb
      clear H1 HU HS
      go_wp2_with fail
      refine (drawPackGauge_some w5 ⟨a0, len0, cap0, z0⟩ (HK.out.below B0.out) hl).mono ?_
      rintro e w6 ⟨p, v, ⟨p0, p1⟩, ⟨v0, v1⟩, rfl, hb⟩
      replace B0 := Lib.hid (B0.out.trans (hb.mono B0.out.size))
      clear hb
      have HG := fun W => Lib.hid (iPackGauge_any W p v (by omega) (by omega) (by omega) (by omega))
      by_cases hg : (1 ≤ p ∧ p ≤ 65535) ∧ (0 ≤ v ∧ v ≤ 65535)
      · obtain ⟨eu, ev⟩ := ung_gauge hg
        have eg := gaugeV_yes hg
        have HUG := fun W => Lib.hid (iUnpackGauge_any W (gaugeV p v) (by omega) (by omega))
        rw [eu, ev] at HUG
        obtain ⟨⟨g1, g2⟩, g3, g4⟩ := hg
        have gne : ((gaugeV p v) != 0) = true := by rw [bne_iff_ne]; omega
        have gne2 : ((gaugeV p v) == 0) = false := by rw [beq_eq_false_iff_ne]; omega
        have HN := fun W => Lib.hid (iPackGauge_any W (p + 1) 0 (by omega) (by omega) (by omega) (by omega))
        by_cases h5 : p = 65535
        · have t5 : (p == 65535) = true := by rw [beq_iff_eq]; exact h5
          generalize gaugeV p v = gg at *
          clear eu ev eg HN h5
          go_wp2_with fail
          refine ((HG w6).out).mono ?_
          rintro e w7 ⟨rfl, hb⟩
          replace B0 := Lib.hid (B0.out.trans (hb.mono B0.out.size))
          clear hb
          go_wp2_with fail
          refine ((HUG w7).out).mono ?_
          rintro e w8 ⟨rfl, hb⟩
          replace B0 := Lib.hid (B0.out.trans (hb.mono B0.out.size))
          clear hb
          go_wp2_with fail
          go_ret
          exact ⟨rfl, B0.out⟩
        · have t5 : (p == 65535) = false := by rw [beq_eq_false_iff_ne]; exact h5
          have en : gaugeV (p + 1) 0 = (p + 1) * 65536 + 0 := gaugeV_yes ⟨by omega, by omega⟩
          have hgt : decide (gaugeV p v < gaugeV (p + 1) 0) = true := by rw [decide_eq_true]; omega
          generalize gaugeV (p + 1) 0 = gn at *
          generalize gaugeV p v = gg at *
          clear eu ev eg en h5
          go_wp2_with fail
          refine ((HG w6).out).mono ?_
          rintro e w7 ⟨rfl, hb⟩
          replace B0 := Lib.hid (B0.out.trans (hb.mono B0.out.size))
          clear hb
          go_wp2_with fail
          refine ((HUG w7).out).mono ?_
          rintro e w8 ⟨rfl, hb⟩
          replace B0 := Lib.hid (B0.out.trans (hb.mono B0.out.size))
          clear hb
          go_wp2_with fail
          refine ((HN w8).out).mono ?_
          rintro e w9 ⟨rfl, hb⟩
          replace B0 := Lib.hid (B0.out.trans (hb.mono B0.out.size))
          clear hb
          go_wp2_with fail
          have hx := atV_bd HK.out 0
          have HA := fun W h => Lib.hid (at_any W ⟨a0, len0, cap0, z0⟩ h hl 0 (by decide))
          generalize atV ⟨a0, len0, cap0, z0⟩ 0 = x at *
          refine ((HA w9 (HK.out.below B0.out)).out).mono ?_
          rintro e w' ⟨rfl, rfl⟩
          have hq0 : 0 ≤ (x : Int) % 3 := by omega
          have hq2 : (x : Int) % 3 ≤ 2 := by omega
          have HW := fun W => Lib.hid (iKindWord_any W (1 + (x : Int) % 3) (by omega) (by omega))
          have HKO := fun W => Lib.hid (iKindOf_any W (kindW (1 + (x : Int) % 3)) (by unfold maxLen; have := kindW_size (1 + (x : Int) % 3); omega))
          rw [kindOf_word ⟨by omega, by omega⟩] at HKO
          generalize kindW (1 + (x : Int) % 3) = y at *
          go_wp2_with fail
          refine ((HW w9).out).mono ?_
          rintro e w10 ⟨rfl, hb⟩
          replace B0 := Lib.hid (B0.out.trans (hb.mono B0.out.size))
          clear hb
          go_wp2_with fail
          refine ((HKO w10).out).mono ?_
          rintro e w11 ⟨rfl, hb⟩
          replace B0 := Lib.hid (B0.out.trans (hb.mono B0.out.size))
          clear hb
          go_wp2_with fail
          refine ((HA w11 (HK.out.below B0.out)).out).mono ?_
          rintro e w' ⟨rfl, rfl⟩
          go_wp2_with fail
          go_ret
          exact ⟨rfl, B0.out⟩
      · have HUG := fun W => Lib.hid (iUnpackGauge_any W 0 (by decide) (by decide))
        rw [show ungA 0 = 0 from if_neg (by decide), show ungV 0 = 0 from if_neg (by decide)] at HUG
        rw [gaugeV_no hg] at HG
        clear hg
        go_wp2_with fail
        refine ((HG w6).out).mono ?_
        rintro e w7 ⟨rfl, hb⟩
        replace B0 := Lib.hid (B0.out.trans (hb.mono B0.out.size))
        clear hb
        go_wp2_with fail
        refine ((HUG w7).out).mono ?_
        rintro e w8 ⟨rfl, hb⟩
        replace B0 := Lib.hid (B0.out.trans (hb.mono B0.out.size))
        clear hb
        go_wp2_with fail
        go_ret
        exact ⟨rfl, B0.out⟩

theorem contract (H : Type) (enc : TypeId × Value → H) (W : World) (base : Nat) (args : Array Value) (ds gs : List (DataW H)) (before : List MemPlace)
    (hval : ∀ (j : Nat) t v, Tryd.f3.params[j]? = some t → args[j]? = some v → Value.okWide Tryd.prog W .any base t v)
    (hW : DataW.Whole enc Tryd.prog Tryd.f3.params.toList Rows.fnTagsSpec.vars false W args.toList ds gs before) (hL : laidMetH Tryd.prog Rows.fnTagsRow.laid W) :
    Calls Tryd.prog 3 args W fun e W' => ∃ v, e = .returned v ∧ Rows.fnTagsSpec.post enc Tryd.prog Tryd.f3 false true false false W args v W' := by
  have hW' := hW
  obtain ⟨p, q, hA0, hV, rfl, hfz, hnd⟩ := hW
  have hA : DataW.TrodAll enc Tryd.prog W 0 (fun _ => true) true Tryd.f3.params.toList args.toList ds p := hA0
  rw [Tryd.params3] at hA hval
  obtain ⟨v0, vs0, d0, ds0, p0, q0, hargs, rfl, rfl, h0, r0⟩ := trodAll_cons hA
  obtain ⟨rfl, rfl, rfl⟩ := trodAll_nil r0
  obtain rfl : args = #[v0] := by cases args; simp_all
  obtain ⟨rfl, rfl⟩ := trodVars_none hV
  obtain ⟨a0, len0, cap0, rfl⟩ := okWide_slice Tryd.underlying22 (hval 0 22 v0 rfl rfl)
  have k0 := h0
  have lt0 : ∀ x ∈ p0, x.block < W.heap.size := by obtain ⟨m, hm⟩ := k0; exact DataW.trod_lt m _ _ _ hm
  obtain ⟨z0, w0⟩ : ∃ zs, IsRow W a0 len0 cap0 zs := by
    obtain ⟨fuel, hf⟩ := h0
    rcases open_ints Tryd.underlying22 Tryd.underlying5 (by kernel_rfl) hf with ⟨hcs, _⟩ | ⟨x, l, c, zs, hcs, _, hl, hm, hz, _, hcell, hwz⟩
    · simp [Value.cells] at hcs
      obtain ⟨rfl, rfl, rfl⟩ := hcs
      exact ⟨[], .inl ⟨rfl, rfl, rfl, rfl⟩⟩
    · simp [Value.cells] at hcs
      obtain ⟨rfl, rfl, rfl⟩ := hcs
      exact ⟨zs, .inr ⟨_, rfl, hl, hm, by simpa using hz, hcell, hwz⟩⟩
  clear hA0
  refine (walk W a0 len0 cap0 z0 w0 ).mono fun e W' ⟨he, bel⟩ => ?_
  subst he
  exact ⟨_, rfl, _, _, _, [], _, [], hW', trodAll_mk1 (shut_bool Tryd.underlying4 _), (trodAll_cons_mk (Below.trod laidOut (by kernel_rfl) (of_decide_eq_true (by kernel_rfl)) k0 bel lt0) trodAll_mk0), rfl, bel.frame _, fun h => by cases h⟩

theorem laid_met (os : Os) : laidMet Tryd.prog Rows.fnTagsRow.laid ((laidWorld os).forCall (fun _ _ => 0) ⟨#[], #[.slice none 0 0], []⟩).memory :=
  laidMet_of_run' 8 (by kernel_rfl) (by kernel_rfl)
theorem reads (os : Os) {H : Type} (enc : TypeId × Value → H) : ∃ places, DataW.whole enc Tryd.prog ((laidWorld os).forCall (fun _ _ => 0) ⟨#[], #[.slice none 0 0], []⟩).memory Tryd.f3.params.toList Rows.fnTagsSpec.vars false #[Value.slice none 0 0].toList 8 = some ([.nil], [], places) :=
  ⟨[], by kernel_rfl⟩

set_option maxRecDepth 100000 in
theorem lifted (os : Os) (started : os.Started) (H : Type) (enc : TypeId × Value → H) (F : Stop.Interp) :
    ReturnsInHanded {} Tryd.checked os 3 .any ((OpenSpec.ofChange Rows.fnTagsSpec).preRow enc Tryd.prog Tryd.f3 Rows.fnTagsRow.domain false Rows.fnTagsRow.laid) (((OpenSpec.ofChange Rows.fnTagsSpec).at F).post enc Tryd.prog Tryd.f3 false true false false) := by
  obtain ⟨places, hx⟩ := reads os enc
  refine returnsInHanded_of_row (C := Tryd.checked) (s := OpenSpec.ofChange Rows.fnTagsSpec) own started (by kernel_rfl) Tryd.func3
    (witness_row_at (enc := enc) (C := Tryd.checked) false (laidWorld os) #[.slice none 0 0] rfl (by kernel_rfl) (by kernel_rfl) (by kernel_rfl)
      (OpenSpec.preRow_of_cond 8 hx (by kernel_rfl) (fun k hk => by cases hk) (by kernel_rfl) (laid_met os))) ?_
  intro W base args ds gs before hval hW _ _ _ hL _ _
  exact contract H enc W base args ds gs before hval hW hL

theorem said : Rows.FnTagsSaid :=
  OpenClaim.holds_of_cond 3 Tryd.f3 rfl rfl rfl rfl rfl rfl rfl ⟨rfl, rfl, rfl, rfl, rfl⟩ rfl rfl rfl rfl rfl (by kernel_rfl) Tryd.func3 (by kernel_rfl)
    (of_decide_eq_true (by kernel_rfl)) (by unfold Func.isWrapper; first | (rw [if_pos (by decide +kernel)]; kernel_rfl) | (rw [if_neg (by decide +kernel)]; exact ⟨rfl, rfl⟩))
    (fun os started H enc _ F => by rw [OpenClaim.pre_eq_preRow]; exact lifted os started H enc F)

theorem plain (f : FuncId) (fn : Func) (hf : Tryd.pinned.checked.prog.funcNamed Rows.fnTagsRow.func = some f) (hfn : Tryd.pinned.checked.prog.funcs[f]? = some fn) :
    Rows.fnTagsCard.stood.looks = Tryd.pinned.checked.prog.looks [] ∧ ∀ (j : Nat) t, fn.params[j]? = some t → Tryd.pinned.checked.prog.wantsStandIn t = false := by
  obtain rfl : f = 3 := Option.some.inj ((show Tryd.prog.funcNamed Rows.fnTagsRow.func = some 3 by kernel_rfl).symm.trans hf) |>.symm
  obtain rfl : fn = Tryd.f3 := (Option.some.inj (Tryd.func3.symm.trans hfn)).symm
  refine ⟨by kernel_rfl, fun j t ht => ?_⟩
  rw [Tryd.params3] at ht
  obtain rfl : t = 22 := by simpa using Array.mem_of_getElem? ht
  exact (show Tryd.prog.wantsStandIn 22 = false by kernel_rfl)

end Go.Proofs.YtcgjbfalandffaaDoor.fnTags
namespace Go.Proofs.YtcgjbfalandffaaDoor
theorem fnTags_holds : Rows.FnTagsCardSaid :=
  Claim7.holds_tied_plain_at .later [] _ _ _ _ fnTags.said (fun _ h => by cases h) (by kernel_rfl) (fun _ h => by cases h) fnTags_row_tie rfl ⟨rfl, rfl⟩ (by kernel_rfl) rfl fnTags.plain (by kernel_rfl)
end Go.Proofs.YtcgjbfalandffaaDoor
