/-
  FnKeys: a key is read from its number, no other number is one, and all slots are on its way, each once, for what is drawn from any code: the law's call returns true and each argument reads afterwards as before. The library's own variables begin as the program's text lays them, which the card ties.
-/
import Derived.Test.YtbjkolnmanomdaaDoorCards
import Derived.Test.YtbjkolnmanomdaaDoorTie
import Derived.Test.YtbjkolnmanomdaaDoorKeyU
import Derived.Test.YtbjkolnmanomdaaDoorDrawK
import Derived.Test.YtbjkolnmanomdaaDoorIntA
import Derived.Test.YtbjkolnmanomdaaDoorBig
import Derived.Test.YtbjkolnmanomdaaDoorCode
import Derived.Test.YtbjkolnmanomdaaDoorLaidU
import Derived.WalkKit
import Derived.ProofKit
import Derived.OpenShut
import Derived.ShutString
import Derived.ChangeOld
import Derived.Below
namespace Go.Proofs.YtbjkolnmanomdaaDoor.fnKeys
open Go.ChangeShapes Go.WideShapes Go.ChangeAt Go.RowKit Go.Proofs.YtbjkolnmanomdaaDoor.M
open Go.ChangeMaps (open_string shut_string)
set_option linter.unusedVariables false
theorem laidOut : laidOutB Tryd.prog = true := by kernel_rfl

set_option maxRecDepth 100000 in
set_option maxHeartbeats 4000000 in
theorem walk (w : World) (a0 : Option Addr) (len0 cap0 : Nat) (z0 : List Int) (w0 : IsRow w a0 len0 cap0 z0)  :
    Calls Tryd.prog 3 #[.slice a0 len0 cap0] w fun e w' => e = .returned (.bool true) ∧ Below w.heap.size w w' := by
  have hk := CodeIn.of_row w0
  by_cases hb : (1048576 : Int) < (len0 : Int)
  · have hbig : decide ((1048576 : Int) < (len0 : Int)) = true := by rw [decide_eq_true]; omega
    clear hk w0
    go_enter Tryd.func3, Tryd.ntmps3
    go_wp2_with fail
    refine (nBig _ _ _ w).mono ?_
    rintro e w1 ⟨rfl, hb1⟩
    have B1 := Lib.hid hb1
    clear hb1
    go_wp2_with fail
    go_ret
    exact ⟨rfl, B1.out⟩
  · have hbig : decide ((1048576 : Int) < (len0 : Int)) = false := by rw [decide_eq_false]; omega
    have hl : len0 ≤ 1048576 := by omega
    have HK := Lib.hid hk
    clear hk w0
    go_enter Tryd.func3, Tryd.ntmps3
    go_wp2_with fail
    refine (nBig _ _ _ w).mono ?_
    rintro e w1 ⟨rfl, hb1⟩
    have B0 := Lib.hid hb1
    have HK1 := Lib.hid (HK.out.below hb1)
    clear hb1
    go_wp2_with fail
    refine (drawPackKey_some w1 ⟨a0, len0, cap0, z0⟩ HK1.out hl).mono ?_
    rintro e w2 ⟨s, hs5, rfl, hb2⟩
    have hs : s.size ≤ maxLen := by unfold maxLen; omega
    replace B0 := Lib.hid (B0.out.trans (hb2.mono B0.out.size))
    have H1 := fun W => Lib.hid (iPack_any W s hs)
    have HO := fun W => Lib.hid (sKeyOk_any W s hs)
    have HP := fun W n => Lib.hid (iProbe_any W s n hs)
    have HH := fun W => Lib.hid (iHash_any W s hs)
    have HS := fun W => Lib.hid (sHash_any W s hs)
    have hh := hashT_lt s.data.toList
    rw [show hashT s.data.toList = hashV s from rfl] at hh
    clear hb2 HK1
    cases hk : keyOkV s with
    | false =>
      have HKY := Lib.hid hk
      have H2 := fun W => Lib.hid (iUnpack_any W 0 (by omega) (by omega))
      rw [unV_zero, unT_none] at H2
      rw [packV_no hk] at H1
      rw [hk] at HO
      clear hk
      go_wp2_with fail
      refine ((H1 w2).out).mono ?_
      rintro e w3 ⟨rfl, hb⟩
      replace B0 := Lib.hid (B0.out.trans (hb.mono B0.out.size))
      clear hb
      go_wp2_with fail
      refine ((H2 w3).out).mono ?_
      rintro e w4 ⟨rfl, hb⟩
      replace B0 := Lib.hid (B0.out.trans (hb.mono B0.out.size))
      clear hb
      go_wp2_with fail
      refine ((HO w4).out).mono ?_
      rintro e w' ⟨rfl, rfl⟩
      go_wp2_with fail
      refine ((HO w4).out).mono ?_
      rintro e w' ⟨rfl, rfl⟩
      go_wp2_with fail
      refine (drawUnpackKey_some w4 ⟨a0, len0, cap0, z0⟩ (HK.out.below B0.out) hl).mono ?_
      rintro e w5 ⟨m, ⟨m0, m1⟩, rfl, hb⟩
      replace B0 := Lib.hid (B0.out.trans (hb.mono B0.out.size))
      clear hb
      have HU := fun W => Lib.hid (iUnpack_any W m (by omega) (by omega))
      cases hu : unV m with
      | none =>
        rw [hu, unT_none] at HU
        clear hu
        go_wp2_with fail
        refine ((HU w5).out).mono ?_
        rintro e w6 ⟨rfl, hb⟩
        replace B0 := Lib.hid (B0.out.trans (hb.mono B0.out.size))
        clear hb
        go_wp2_with fail
        go_loopw [10, 11] (fun v x wr => ∃ j : Nat, j ≤ 4 ∧ x = .int .i64 j ∧ OwnI wr w.heap.size v (probeL s j) ∧ Below w.heap.size w wr) (fun _ x _ => 4 - (intOf x).toNat)
        case atStart => exact ⟨0, Nat.zero_le _, rfl, OwnI.empty _ _ B0.out.size, B0.out.alloc B0.out.size _⟩
        case round =>
          obtain ⟨j, hj, rfl, ho, hbr⟩ := hrel
          have HOW := Lib.hid ho
          have HB := Lib.hid hbr
          have hlen : (probeL s j).length ≤ 4 := by rw [probeL_len]; exact hj
          clear ho hbr
          by_cases hlt : j < 4
          · have HX := Lib.hid (probeL_next s j)
            have HC := Lib.hid (HP wr (j : Int)).out
            rw [probeV_no HKY.out] at HC HX
            go_wp2_with fail
            refine HC.out.mono ?_
            rintro e w9 ⟨rfl, hb9⟩
            have HO9 := Lib.hid (HOW.out.below hb9)
            have HB9 := Lib.hid (HB.out.trans (hb9.mono HB.out.size))
            clear hb9
            go_wp2_with (at_builtin; refine wpI_append w9 rfl _ _ rfl w.heap.size _ _ HO9.out rfl (-1) rfl ?c1 ?c2 ?_; rotate_left 2; intro v' w3 hown' hgrow'; have HO3 := Lib.hid hown'; have HG := Lib.hid hgrow'; clear hown' hgrow')
            · go_roundw
              case rel => exact ⟨j + 1, by omega, by go_num, by rw [← HX.out]; exact HO3.out, (HB9.out.alloc HB9.out.size _).grown HG.out (by simp [go_sem]; have := HB9.out.size; omega) HO9.out.base_le⟩
              case measure => simp [intOf]; omega
            case c1 => omega
            case c2 => exact HB9.out.size
          · have hge : decide ((j : Int) < 4) = false := by simp; omega
            generalize hashV s = h at *
            have hh2 : decide ((h : Int) ≤ 4294967295) = true := by rw [decide_eq_true]; omega
            go_wp2_with fail
            refine ((HH wr).out).mono ?_
            rintro e w9 ⟨rfl, hb9⟩
            have HB9 := Lib.hid (HB.out.trans (hb9.mono HB.out.size))
            clear hb9
            go_wp2_with fail
            refine ((HS w9).out).mono ?_
            rintro e w' ⟨rfl, rfl⟩
            go_wp2_with fail
            go_ret
            exact ⟨rfl, HB9.out⟩
      | some u =>
        obtain ⟨hku, hpu⟩ := pack_unV hu
        have hus : u.size ≤ maxLen := by have := (keyOkV_iff.1 hku).1; unfold maxLen; omega
        have HPU := fun W => Lib.hid (iPack_any W u hus)
        rw [hpu] at HPU
        rw [hu, unT_some] at HU
        clear hu hku hpu hus
        go_wp2_with fail
        refine ((HU w5).out).mono ?_
        rintro e w6 ⟨rfl, hb⟩
        replace B0 := Lib.hid (B0.out.trans (hb.mono B0.out.size))
        clear hb
        go_wp2_with fail
        refine ((HPU w6).out).mono ?_
        rintro e w7 ⟨rfl, hb⟩
        replace B0 := Lib.hid (B0.out.trans (hb.mono B0.out.size))
        clear hb
        go_wp2_with fail
        go_loopw [10, 11] (fun v x wr => ∃ j : Nat, j ≤ 4 ∧ x = .int .i64 j ∧ OwnI wr w.heap.size v (probeL s j) ∧ Below w.heap.size w wr) (fun _ x _ => 4 - (intOf x).toNat)
        case atStart => exact ⟨0, Nat.zero_le _, rfl, OwnI.empty _ _ B0.out.size, B0.out.alloc B0.out.size _⟩
        case round =>
          obtain ⟨j, hj, rfl, ho, hbr⟩ := hrel
          have HOW := Lib.hid ho
          have HB := Lib.hid hbr
          have hlen : (probeL s j).length ≤ 4 := by rw [probeL_len]; exact hj
          clear ho hbr
          by_cases hlt : j < 4
          · have HX := Lib.hid (probeL_next s j)
            have HC := Lib.hid (HP wr (j : Int)).out
            rw [probeV_no HKY.out] at HC HX
            go_wp2_with fail
            refine HC.out.mono ?_
            rintro e w9 ⟨rfl, hb9⟩
            have HO9 := Lib.hid (HOW.out.below hb9)
            have HB9 := Lib.hid (HB.out.trans (hb9.mono HB.out.size))
            clear hb9
            go_wp2_with (at_builtin; refine wpI_append w9 rfl _ _ rfl w.heap.size _ _ HO9.out rfl (-1) rfl ?c1 ?c2 ?_; rotate_left 2; intro v' w3 hown' hgrow'; have HO3 := Lib.hid hown'; have HG := Lib.hid hgrow'; clear hown' hgrow')
            · go_roundw
              case rel => exact ⟨j + 1, by omega, by go_num, by rw [← HX.out]; exact HO3.out, (HB9.out.alloc HB9.out.size _).grown HG.out (by simp [go_sem]; have := HB9.out.size; omega) HO9.out.base_le⟩
              case measure => simp [intOf]; omega
            case c1 => omega
            case c2 => exact HB9.out.size
          · have hge : decide ((j : Int) < 4) = false := by simp; omega
            generalize hashV s = h at *
            have hh2 : decide ((h : Int) ≤ 4294967295) = true := by rw [decide_eq_true]; omega
            go_wp2_with fail
            refine ((HH wr).out).mono ?_
            rintro e w9 ⟨rfl, hb9⟩
            have HB9 := Lib.hid (HB.out.trans (hb9.mono HB.out.size))
            clear hb9
            go_wp2_with fail
            refine ((HS w9).out).mono ?_
            rintro e w' ⟨rfl, rfl⟩
            go_wp2_with fail
            go_ret
            exact ⟨rfl, HB9.out⟩
    | true =>
      have HKY := Lib.hid hk
      obtain ⟨hun, hp1⟩ := unV_pack hk
      have hp2 := packV_lt s
      have H2 := fun W => Lib.hid (iUnpack_any W (packV s : Nat) (by omega) (by omega))
      rw [hun, unT_some] at H2
      have hne : (((packV s : Nat) : Int) != 0) = true := by rw [bne_iff_ne]; omega
      generalize packV s = n at *
      rw [hk] at HO
      clear hk hun
      go_wp2_with fail
      refine ((H1 w2).out).mono ?_
      rintro e w3 ⟨rfl, hb⟩
      replace B0 := Lib.hid (B0.out.trans (hb.mono B0.out.size))
      clear hb
      go_wp2_with fail
      refine ((H2 w3).out).mono ?_
      rintro e w4 ⟨rfl, hb⟩
      replace B0 := Lib.hid (B0.out.trans (hb.mono B0.out.size))
      clear hb
      go_wp2_with fail
      refine ((HO w4).out).mono ?_
      rintro e w' ⟨rfl, rfl⟩
      go_wp2_with fail
      refine ((HO w4).out).mono ?_
      rintro e w' ⟨rfl, rfl⟩
      go_wp2_with fail
      refine (drawUnpackKey_some w4 ⟨a0, len0, cap0, z0⟩ (HK.out.below B0.out) hl).mono ?_
      rintro e w5 ⟨m, ⟨m0, m1⟩, rfl, hb⟩
      replace B0 := Lib.hid (B0.out.trans (hb.mono B0.out.size))
      clear hb
      have HU := fun W => Lib.hid (iUnpack_any W m (by omega) (by omega))
      cases hu : unV m with
      | none =>
        rw [hu, unT_none] at HU
        clear hu
        go_wp2_with fail
        refine ((HU w5).out).mono ?_
        rintro e w6 ⟨rfl, hb⟩
        replace B0 := Lib.hid (B0.out.trans (hb.mono B0.out.size))
        clear hb
        go_wp2_with fail
        go_loopw [10, 11] (fun v x wr => ∃ j : Nat, j ≤ 4 ∧ x = .int .i64 j ∧ OwnI wr w.heap.size v (probeL s j) ∧ Below w.heap.size w wr) (fun _ x _ => 4 - (intOf x).toNat)
        case atStart => exact ⟨0, Nat.zero_le _, rfl, OwnI.empty _ _ B0.out.size, B0.out.alloc B0.out.size _⟩
        case round =>
          obtain ⟨j, hj, rfl, ho, hbr⟩ := hrel
          have HOW := Lib.hid ho
          have HB := Lib.hid hbr
          have hlen : (probeL s j).length ≤ 4 := by rw [probeL_len]; exact hj
          clear ho hbr
          by_cases hlt : j < 4
          · have HX := Lib.hid (probeL_next s j)
            have HC := Lib.hid (HP wr (j : Int)).out
            have HN := Lib.hid (probeL_new HKY.out hlt)
            have hpv : 0 ≤ probeV s (j : Nat) ∧ probeV s (j : Nat) < 4 := by rw [probeV_yes HKY.out hlt]; omega
            obtain ⟨p0, p1⟩ := hpv
            generalize probeV s (j : Nat) = p at *
            go_wp2_with fail
            refine HC.out.mono ?_
            rintro e w9 ⟨rfl, hb9⟩
            have HO9 := Lib.hid (HOW.out.below hb9)
            have HB9 := Lib.hid (HB.out.trans (hb9.mono HB.out.size))
            clear hb9
            go_wp2_with fail
            refine (has_no w9 _ _ p HO9.out.ints HN.out).mono ?_
            rintro e w' ⟨rfl, rfl⟩
            go_wp2_with (at_builtin; refine wpI_append w9 rfl _ _ rfl w.heap.size _ _ HO9.out rfl p rfl ?c1 ?c2 ?_; rotate_left 2; intro v' w3 hown' hgrow'; have HO3 := Lib.hid hown'; have HG := Lib.hid hgrow'; clear hown' hgrow')
            · go_roundw
              case rel => exact ⟨j + 1, by omega, by go_num, by rw [← HX.out]; exact HO3.out, (HB9.out.alloc HB9.out.size _).grown HG.out (by simp [go_sem]; have := HB9.out.size; omega) HO9.out.base_le⟩
              case measure => simp [intOf]; omega
            case c1 => omega
            case c2 => exact HB9.out.size
          · have hge : decide ((j : Int) < 4) = false := by simp; omega
            have hj4 : 0 < j := by omega
            obtain ⟨g, cap, hv⟩ := HOW.out.2
            subst hv
            rw [probeL_len]
            have HV := Lib.hid (show ∀ W, Below wr.heap.size wr W → W.cell? ⟨g, 0, none⟩ = some (.int .i64 ((hashV s : Int) % 4)) from fun W hW => by
              have h0 := HOW.out.below hW
              rw [probeL_len] at h0
              have := h0.cell 0 (by omega)
              rw [this, probeL_at s (by omega), probeV_yes HKY.out (by omega)]
              simp)
            have hj4' : (0 : Int) < (j : Int) := by omega
            generalize hashV s = h at *
            have hh2 : decide ((h : Int) ≤ 4294967295) = true := by rw [decide_eq_true]; omega
            go_wp2_with fail
            refine ((HH wr).out).mono ?_
            rintro e w9 ⟨rfl, hb9⟩
            have hcell := HV.out w9 hb9
            have HB9 := Lib.hid (HB.out.trans (hb9.mono HB.out.size))
            clear hb9
            go_wp2_with fail
            refine ((HS w9).out).mono ?_
            rintro e w' ⟨rfl, rfl⟩
            go_wp2_with fail
            go_ret
            exact ⟨rfl, HB9.out⟩
      | some u =>
        obtain ⟨hku, hpu⟩ := pack_unV hu
        have hus : u.size ≤ maxLen := by have := (keyOkV_iff.1 hku).1; unfold maxLen; omega
        have HPU := fun W => Lib.hid (iPack_any W u hus)
        rw [hpu] at HPU
        rw [hu, unT_some] at HU
        clear hu hku hpu hus
        go_wp2_with fail
        refine ((HU w5).out).mono ?_
        rintro e w6 ⟨rfl, hb⟩
        replace B0 := Lib.hid (B0.out.trans (hb.mono B0.out.size))
        clear hb
        go_wp2_with fail
        refine ((HPU w6).out).mono ?_
        rintro e w7 ⟨rfl, hb⟩
        replace B0 := Lib.hid (B0.out.trans (hb.mono B0.out.size))
        clear hb
        go_wp2_with fail
        go_loopw [10, 11] (fun v x wr => ∃ j : Nat, j ≤ 4 ∧ x = .int .i64 j ∧ OwnI wr w.heap.size v (probeL s j) ∧ Below w.heap.size w wr) (fun _ x _ => 4 - (intOf x).toNat)
        case atStart => exact ⟨0, Nat.zero_le _, rfl, OwnI.empty _ _ B0.out.size, B0.out.alloc B0.out.size _⟩
        case round =>
          obtain ⟨j, hj, rfl, ho, hbr⟩ := hrel
          have HOW := Lib.hid ho
          have HB := Lib.hid hbr
          have hlen : (probeL s j).length ≤ 4 := by rw [probeL_len]; exact hj
          clear ho hbr
          by_cases hlt : j < 4
          · have HX := Lib.hid (probeL_next s j)
            have HC := Lib.hid (HP wr (j : Int)).out
            have HN := Lib.hid (probeL_new HKY.out hlt)
            have hpv : 0 ≤ probeV s (j : Nat) ∧ probeV s (j : Nat) < 4 := by rw [probeV_yes HKY.out hlt]; omega
            obtain ⟨p0, p1⟩ := hpv
            generalize probeV s (j : Nat) = p at *
            go_wp2_with fail
            refine HC.out.mono ?_
            rintro e w9 ⟨rfl, hb9⟩
            have HO9 := Lib.hid (HOW.out.below hb9)
            have HB9 := Lib.hid (HB.out.trans (hb9.mono HB.out.size))
            clear hb9
            go_wp2_with fail
            refine (has_no w9 _ _ p HO9.out.ints HN.out).mono ?_
            rintro e w' ⟨rfl, rfl⟩
            go_wp2_with (at_builtin; refine wpI_append w9 rfl _ _ rfl w.heap.size _ _ HO9.out rfl p rfl ?c1 ?c2 ?_; rotate_left 2; intro v' w3 hown' hgrow'; have HO3 := Lib.hid hown'; have HG := Lib.hid hgrow'; clear hown' hgrow')
            · go_roundw
              case rel => exact ⟨j + 1, by omega, by go_num, by rw [← HX.out]; exact HO3.out, (HB9.out.alloc HB9.out.size _).grown HG.out (by simp [go_sem]; have := HB9.out.size; omega) HO9.out.base_le⟩
              case measure => simp [intOf]; omega
            case c1 => omega
            case c2 => exact HB9.out.size
          · have hge : decide ((j : Int) < 4) = false := by simp; omega
            have hj4 : 0 < j := by omega
            obtain ⟨g, cap, hv⟩ := HOW.out.2
            subst hv
            rw [probeL_len]
            have HV := Lib.hid (show ∀ W, Below wr.heap.size wr W → W.cell? ⟨g, 0, none⟩ = some (.int .i64 ((hashV s : Int) % 4)) from fun W hW => by
              have h0 := HOW.out.below hW
              rw [probeL_len] at h0
              have := h0.cell 0 (by omega)
              rw [this, probeL_at s (by omega), probeV_yes HKY.out (by omega)]
              simp)
            have hj4' : (0 : Int) < (j : Int) := by omega
            generalize hashV s = h at *
            have hh2 : decide ((h : Int) ≤ 4294967295) = true := by rw [decide_eq_true]; omega
            go_wp2_with fail
            refine ((HH wr).out).mono ?_
            rintro e w9 ⟨rfl, hb9⟩
            have hcell := HV.out w9 hb9
            have HB9 := Lib.hid (HB.out.trans (hb9.mono HB.out.size))
            clear hb9
            go_wp2_with fail
            refine ((HS w9).out).mono ?_
            rintro e w' ⟨rfl, rfl⟩
            go_wp2_with fail
            go_ret
            exact ⟨rfl, HB9.out⟩

theorem contract (H : Type) (enc : TypeId × Value → H) (W : World) (base : Nat) (args : Array Value) (ds gs : List (DataW H)) (before : List MemPlace)
    (hval : ∀ (j : Nat) t v, Tryd.f3.params[j]? = some t → args[j]? = some v → Value.okWide Tryd.prog W .any base t v)
    (hW : DataW.Whole enc Tryd.prog Tryd.f3.params.toList Rows.fnKeysSpec.vars false W args.toList ds gs before) (hL : laidMetH Tryd.prog Rows.fnKeysRow.laid W) :
    Calls Tryd.prog 3 args W fun e W' => ∃ v, e = .returned v ∧ Rows.fnKeysSpec.post enc Tryd.prog Tryd.f3 false true false false W args v W' := by
  have hW' := hW
  obtain ⟨p, q, hA0, hV, rfl, hfz, hnd⟩ := hW
  have hA : DataW.TrodAll enc Tryd.prog W 0 (fun _ => true) true Tryd.f3.params.toList args.toList ds p := hA0
  rw [Tryd.params3] at hA hval
  obtain ⟨v0, vs0, d0, ds0, p0, q0, hargs, rfl, rfl, h0, r0⟩ := trodAll_cons hA
  obtain ⟨rfl, rfl, rfl⟩ := trodAll_nil r0
  obtain rfl : args = #[v0] := by cases args; simp_all
  obtain ⟨rfl, rfl⟩ := trodVars_none hV
  obtain ⟨a0, len0, cap0, rfl⟩ := okWide_slice Tryd.underlying22 (hval 0 22 v0 rfl rfl)
  have k0 := h0
  have lt0 : ∀ x ∈ p0, x.block < W.heap.size := by obtain ⟨m, hm⟩ := k0; exact DataW.trod_lt m _ _ _ hm
  obtain ⟨z0, w0⟩ : ∃ zs, IsRow W a0 len0 cap0 zs := by
    obtain ⟨fuel, hf⟩ := h0
    rcases open_ints Tryd.underlying22 Tryd.underlying5 (by kernel_rfl) hf with ⟨hcs, _⟩ | ⟨x, l, c, zs, hcs, _, hl, hm, hz, _, hcell, hwz⟩
    · simp [Value.cells] at hcs
      obtain ⟨rfl, rfl, rfl⟩ := hcs
      exact ⟨[], .inl ⟨rfl, rfl, rfl, rfl⟩⟩
    · simp [Value.cells] at hcs
      obtain ⟨rfl, rfl, rfl⟩ := hcs
      exact ⟨zs, .inr ⟨_, rfl, hl, hm, by simpa using hz, hcell, hwz⟩⟩
  clear hA0
  refine (walk W a0 len0 cap0 z0 w0 ).mono fun e W' ⟨he, bel⟩ => ?_
  subst he
  exact ⟨_, rfl, _, _, _, [], _, [], hW', trodAll_mk1 (shut_bool Tryd.underlying4 _), (trodAll_cons_mk (Below.trod laidOut (by kernel_rfl) (of_decide_eq_true (by kernel_rfl)) k0 bel lt0) trodAll_mk0), rfl, bel.frame _, fun h => by cases h⟩

theorem laid_met (os : Os) : laidMet Tryd.prog Rows.fnKeysRow.laid ((laidWorld os).forCall (fun _ _ => 0) ⟨#[], #[.slice none 0 0], []⟩).memory :=
  laidMet_of_run' 8 (by kernel_rfl) (by kernel_rfl)
theorem reads (os : Os) {H : Type} (enc : TypeId × Value → H) : ∃ places, DataW.whole enc Tryd.prog ((laidWorld os).forCall (fun _ _ => 0) ⟨#[], #[.slice none 0 0], []⟩).memory Tryd.f3.params.toList Rows.fnKeysSpec.vars false #[Value.slice none 0 0].toList 8 = some ([.nil], [], places) :=
  ⟨[], by kernel_rfl⟩

set_option maxRecDepth 100000 in
theorem lifted (os : Os) (started : os.Started) (H : Type) (enc : TypeId × Value → H) (F : Stop.Interp) :
    ReturnsInHanded {} Tryd.checked os 3 .any ((OpenSpec.ofChange Rows.fnKeysSpec).preRow enc Tryd.prog Tryd.f3 Rows.fnKeysRow.domain false Rows.fnKeysRow.laid) (((OpenSpec.ofChange Rows.fnKeysSpec).at F).post enc Tryd.prog Tryd.f3 false true false false) := by
  obtain ⟨places, hx⟩ := reads os enc
  refine returnsInHanded_of_row (C := Tryd.checked) (s := OpenSpec.ofChange Rows.fnKeysSpec) own started (by kernel_rfl) Tryd.func3
    (witness_row_at (enc := enc) (C := Tryd.checked) false (laidWorld os) #[.slice none 0 0] rfl (by kernel_rfl) (by kernel_rfl) (by kernel_rfl)
      (OpenSpec.preRow_of_cond 8 hx (by kernel_rfl) (fun k hk => by cases hk) (by kernel_rfl) (laid_met os))) ?_
  intro W base args ds gs before hval hW _ _ _ hL _ _
  exact contract H enc W base args ds gs before hval hW hL

theorem said : Rows.FnKeysSaid :=
  OpenClaim.holds_of_cond 3 Tryd.f3 rfl rfl rfl rfl rfl rfl rfl ⟨rfl, rfl, rfl, rfl, rfl⟩ rfl rfl rfl rfl rfl (by kernel_rfl) Tryd.func3 (by kernel_rfl)
    (of_decide_eq_true (by kernel_rfl)) (by unfold Func.isWrapper; first | (rw [if_pos (by decide +kernel)]; kernel_rfl) | (rw [if_neg (by decide +kernel)]; exact ⟨rfl, rfl⟩))
    (fun os started H enc _ F => by rw [OpenClaim.pre_eq_preRow]; exact lifted os started H enc F)

theorem plain (f : FuncId) (fn : Func) (hf : Tryd.pinned.checked.prog.funcNamed Rows.fnKeysRow.func = some f) (hfn : Tryd.pinned.checked.prog.funcs[f]? = some fn) :
    Rows.fnKeysCard.stood.looks = Tryd.pinned.checked.prog.looks [] ∧ ∀ (j : Nat) t, fn.params[j]? = some t → Tryd.pinned.checked.prog.wantsStandIn t = false := by
  obtain rfl : f = 3 := Option.some.inj ((show Tryd.prog.funcNamed Rows.fnKeysRow.func = some 3 by kernel_rfl).symm.trans hf) |>.symm
  obtain rfl : fn = Tryd.f3 := (Option.some.inj (Tryd.func3.symm.trans hfn)).symm
  refine ⟨by kernel_rfl, fun j t ht => ?_⟩
  rw [Tryd.params3] at ht
  obtain rfl : t = 22 := by simpa using Array.mem_of_getElem? ht
  exact (show Tryd.prog.wantsStandIn 22 = false by kernel_rfl)

end Go.Proofs.YtbjkolnmanomdaaDoor.fnKeys
namespace Go.Proofs.YtbjkolnmanomdaaDoor
theorem fnKeys_holds : Rows.FnKeysCardSaid :=
  Claim7.holds_tied_plain_at .later [] _ _ _ _ fnKeys.said (fun _ h => by cases h) (by kernel_rfl) (fun _ h => by cases h) fnKeys_row_tie rfl ⟨rfl, rfl⟩ (by kernel_rfl) rfl fnKeys.plain (by kernel_rfl)
end Go.Proofs.YtbjkolnmanomdaaDoor
