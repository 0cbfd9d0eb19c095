/-
  FnLayout: different names denote different cells, and every cell has a name, for what is drawn from any code: the law's call returns true and each argument reads afterwards as before. The library's own variables begin as the program's text lays them, which the card ties.
-/
import Derived.Test.YtdefhiblbahhnaaDoorCards
import Derived.Test.YtdefhiblbahhnaaDoorTie
import Derived.Test.YtdefhiblbahhnaaDoorLayT
import Derived.Test.YtdefhiblbahhnaaDoorBig
import Derived.Test.YtdefhiblbahhnaaDoorCode
import Derived.WalkKit
import Derived.ProofKit
import Derived.OpenShut
import Derived.ShutString
import Derived.ChangeOld
import Derived.Below
namespace Go.Proofs.YtdefhiblbahhnaaDoor.fnLayout
open Go.ChangeShapes Go.WideShapes Go.ChangeAt Go.RowKit Go.Proofs.YtdefhiblbahhnaaDoor.M
open Go.ChangeMaps (open_string shut_string)
set_option linter.unusedVariables false
theorem laidOut : laidOutB Tryd.prog = true := by kernel_rfl

set_option maxRecDepth 100000 in
set_option maxHeartbeats 4000000 in
theorem walk (w : World) (a0 : Option Addr) (len0 cap0 : Nat) (z0 : List Int) (w0 : IsRow w a0 len0 cap0 z0) (ht : Tab w) :
    Calls Tryd.prog 3 #[.slice a0 len0 cap0] w fun e w' => e = .returned (.bool true) ∧ Below w.heap.size w w' := by
  have hk := CodeIn.of_row w0
  by_cases hb : (1048576 : Int) < (len0 : Int)
  · have hbig : decide ((1048576 : Int) < (len0 : Int)) = true := by rw [decide_eq_true]; omega
    clear hk w0
    go_enter Tryd.func3, Tryd.ntmps3
    go_wp2_with fail
    refine (nBig _ _ _ w).mono ?_
    rintro e w1 ⟨rfl, hb1⟩
    have B1 := Lib.hid hb1
    clear hb1
    go_wp2_with fail
    go_ret
    exact ⟨rfl, B1.out⟩
  · have hbig : decide ((1048576 : Int) < (len0 : Int)) = false := by rw [decide_eq_false]; omega
    have hl : len0 ≤ 1048576 := by omega
    have HK := Lib.hid hk
    have HT := Lib.hid ht
    clear hk w0 ht
    go_enter Tryd.func3, Tryd.ntmps3
    go_wp2_with fail
    refine (nBig _ _ _ w).mono ?_
    rintro e w1 ⟨rfl, hb1⟩
    have B1 := Lib.hid hb1
    have HT1 := Lib.hid (HT.out.below hb1)
    have HK1 := Lib.hid (HK.out.below hb1)
    clear hb1 HK HT
    go_wp2_with fail
    refine (at_some w1 ⟨a0, len0, cap0, z0⟩ HK1.out hl 0 (by decide)).mono ?_
    rintro e w' ⟨x0, hx0, rfl, rfl⟩
    go_wp2_with fail
    refine (at_some w1 ⟨a0, len0, cap0, z0⟩ HK1.out hl 1 (by decide)).mono ?_
    rintro e w' ⟨x1, hx1, rfl, rfl⟩
    go_wp2_with fail
    refine (at_some w1 ⟨a0, len0, cap0, z0⟩ HK1.out hl 2 (by decide)).mono ?_
    rintro e w' ⟨x2, hx2, rfl, rfl⟩
    go_wp2_with fail
    have eb : ((x0 : Nat) : Int) % 2 = ((x0 % 2 : Nat) : Int) := by omega
    have es : ((x1 : Nat) : Int) % 4 = ((x1 % 4 : Nat) : Int) := by omega
    have ek : ((x2 : Nat) : Int) % 3 = ((x2 % 3 : Nat) : Int) := by omega
    rw [eb, es, ek]
    clear eb es ek
    obtain ⟨b, hbb⟩ : ∃ b, b = x0 % 2 := ⟨_, rfl⟩
    obtain ⟨s, hss⟩ : ∃ s, s = x1 % 4 := ⟨_, rfl⟩
    obtain ⟨k, hkk⟩ : ∃ k, k = x2 % 3 := ⟨_, rfl⟩
    rw [← hbb, ← hss, ← hkk]
    have hb2 : b < 2 := by omega
    have hs4 : s < 4 := by omega
    have hk3 : k < 3 := by omega
    clear hbb hss hkk
    have HD := Lib.hid (differ_lay hb2 hs4 hk3)
    have HN9 := Lib.hid (name9 b hb2 s hs4 k hk3)
    have HN7 := Lib.hid (name7 b hb2 s hs4)
    have C0 := fun W => Lib.hid (cIn W 0 (by decide))
    have C1 := fun W => Lib.hid (cIn W 1 (by decide))
    have C3 := fun W => Lib.hid (cKey W s hs4)
    have C4 := fun W => Lib.hid (cStripe W b s 0 hb2 hs4 (by decide) (7 + 32 * b + 8 * s) (by omega))
    have C5 := fun W => Lib.hid (cStripe W b s 1 hb2 hs4 (by decide) (8 + 32 * b + 8 * s) (by omega))
    have C6 := fun W => Lib.hid (cStamp W b s hb2 hs4)
    have C7 := fun W => Lib.hid (cGauge W b s hb2 hs4)
    have C8 := fun W => Lib.hid (cTicket W b s hb2 hs4)
    have C9 := fun W => Lib.hid (cRing W b s k hb2 hs4 hk3)
    have CB := fun W => Lib.hid (cBase W b s hb2 hs4)
    unfold layL at HD
    generalize 3 + s = z3 at *
    generalize 7 + 32 * b + 8 * s = z4 at *
    generalize 8 + 32 * b + 8 * s = z5 at *
    generalize 9 + 32 * b + 8 * s = z6 at *
    generalize 10 + 32 * b + 8 * s = z7 at *
    generalize 11 + 32 * b + 8 * s = z8 at *
    generalize 12 + 32 * b + 8 * s + k = z9 at *
    refine ((C0 w1).out).mono ?_
    rintro e w' ⟨rfl, rfl⟩
    go_wp2_with fail
    refine ((C1 w1).out).mono ?_
    rintro e w' ⟨rfl, rfl⟩
    go_wp2_with fail
    refine ((C3 w1).out).mono ?_
    rintro e w' ⟨rfl, rfl⟩
    go_wp2_with fail
    refine ((C4 w1).out).mono ?_
    rintro e w' ⟨rfl, rfl⟩
    go_wp2_with fail
    refine ((C5 w1).out).mono ?_
    rintro e w' ⟨rfl, rfl⟩
    go_wp2_with fail
    refine ((C6 w1).out).mono ?_
    rintro e w' ⟨rfl, rfl⟩
    go_wp2_with fail
    refine ((C7 w1).out).mono ?_
    rintro e w' ⟨rfl, rfl⟩
    go_wp2_with fail
    refine ((C8 w1).out).mono ?_
    rintro e w' ⟨rfl, rfl⟩
    go_wp2_with fail
    refine ((C9 w1).out).mono ?_
    rintro e w' ⟨rfl, rfl⟩
    go_wp2_with fail
    obtain ⟨wl, hwl⟩ : ∃ wl, wl = w1.alloc (.cells #[.int .i64 0, .int .i64 1, .int .i64 2, .int .i64 (z3 : Int), .int .i64 (z4 : Int), .int .i64 (z5 : Int), .int .i64 (z6 : Int), .int .i64 (z7 : Int), .int .i64 (z8 : Int), .int .i64 (z9 : Int)] 3) := ⟨_, rfl⟩
    have hsz : wl.heap.size = w1.heap.size + 1 := by rw [hwl]; simp [go_sem]
    have hli : Ints wl (.slice (some ⟨w1.heap.size, 0, none⟩) 10 10) ([0, 1, 2, z3, z4, z5, z6, z7, z8, z9].map fun x : Nat => (x : Int)) := by rw [hwl]; exact ints_new w1 _ 10 rfl (by decide) _ rfl
    have hbl : Below w1.heap.size w1 wl := by rw [hwl]; exact (Below.refl _ _).alloc (Nat.le_refl _) _
    rw [← hwl, ← hsz]
    have HZ9 := Lib.hid (show [0, 1, 2, z3, z4, z5, z6, z7, z8, z9].getD 9 0 = z9 from rfl)
    have HZ7 := Lib.hid (show [0, 1, 2, z3, z4, z5, z6, z7, z8, z9].getD 7 0 = z7 from rfl)
    have HZ4 := Lib.hid (show [0, 1, 2, z3, z4, z5, z6, z7, z8, z9].getD 4 0 = z4 from rfl)
    generalize [0, 1, 2, z3, z4, z5, z6, z7, z8, z9] = L at *
    have HLI := Lib.hid hli
    have HTL := Lib.hid (HT1.out.below hbl)
    have BL := Lib.hid (B1.out.trans (hbl.mono B1.out.size))
    clear hwl hsz hli hbl HT1 B1 HK1 C0 C1 C3 C4 C5 C6 C7 C8 C9
    go_loopw [7, 8] (fun v x wr => ∃ j : Nat, j ≤ 10 ∧ x = .int .i64 j ∧ OwnT wr wl.heap.size v (namesT L j) ∧ Below wl.heap.size wl wr) (fun _ x _ => 10 - (intOf x).toNat)
    case atStart => exact ⟨0, Nat.zero_le _, rfl, OwnT.empty wl _ (Nat.le_refl _), (Below.refl _ _).alloc (Nat.le_refl _) _⟩
    case round =>
      obtain ⟨j, hj, rfl, ho, hbr⟩ := hrel
      by_cases hlt : j < 10
      · have hc := ints_nat (HLI.out.below hbr) hlt
        have hz := (HD.out.2 j hlt).1
        have hne := txt_some (name_some hz)
        have hne2 := txt_full (name_some hz)
        have HX := Lib.hid (namesT_next L j (by have := HD.out.1; omega))
        have HS := Lib.hid (HD.out.text hlt)
        have HC := Lib.hid (iName_any wr ((L.getD j 0 : Nat) : Int) (HTL.out.below hbr))
        have hlen : (namesT L j).length ≤ 1000 := by rw [namesT_len L j (by have := HD.out.1; omega)]; omega
        have HO := Lib.hid ho
        have HB := Lib.hid hbr
        have hgl := ints_lt (HLI.out.below hbr)
        clear ho hbr
        generalize L.getD j 0 = z at *
        generalize nameV (z : Int) = n at *
        go_wp2_with fail
        refine (HC.out).mono ?_
        rintro e w2 ⟨rfl, hb2⟩
        have hc2 := (hb2.cell (p := ⟨w1.heap.size, j, none⟩) hgl).trans hc
        have HO2 := Lib.hid (HO.out.below hb2)
        have HB2 := Lib.hid (HB.out.trans (hb2.mono HB.out.size))
        clear hb2 hc
        go_wp2_with fail
        refine (hasText_no w2 _ _ n HO2.out.arg HS.out).mono ?_
        rintro e w' ⟨rfl, rfl⟩
        go_wp2_with (at_builtin; refine wpT_append w2 rfl _ _ rfl wl.heap.size _ _ HO2.out rfl n rfl ?c1 ?c2 ?_; rotate_left 2; intro v' w3 hown' hgrow'; have HO3 := Lib.hid hown'; have HG := Lib.hid hgrow'; clear hown' hgrow')
        · go_roundw
          case rel => exact ⟨j + 1, by omega, by go_num, by rw [← HX.out]; exact HO3.out, (HB2.out.alloc HB2.out.size _).grown HG.out (by simp [go_sem]; have := HB2.out.size; omega) HO2.out.base_le⟩
          case measure => simp [intOf]; omega
        case c1 => omega
        case c2 => exact HB2.out.size
      · have hge : decide ((j : Int) < 10) = false := by simp; omega
        have HB := Lib.hid hbr
        have hsz := hbr.size
        have HTR := Lib.hid (HTL.out.below hbr)
        have HLR := Lib.hid (HLI.out.below hbr)
        clear ho hbr
        go_wp2_with fail
        go_loopw [10, 11] (fun v x wq => ∃ j : Nat, j ≤ 71 ∧ x = .int .i64 j ∧ OwnT wq wl.heap.size v (namesT (List.range 71) j) ∧ Below wl.heap.size wl wq) (fun _ x _ => 71 - (intOf x).toNat)
        case atStart => exact ⟨0, Nat.zero_le _, rfl, OwnT.empty wr _ hsz, HB.out.alloc hsz _⟩
        case round =>
          clear hlt hge hj
          obtain ⟨j, hj, rfl, ho, hbr⟩ := hrel
          by_cases hlt : j < 71
          · have hne := txt_some (name_some hlt)
            have hne2 := txt_full (name_some hlt)
            have HX := Lib.hid (namesT_next (List.range 71) j (by have := differ_all.1; omega))
            have HS := Lib.hid (differ_all.text hlt)
            rw [range_getD hlt] at HX HS
            have HC := Lib.hid (iName_any wr ((j : Nat) : Int) (HTL.out.below hbr))
            have hlen : (namesT (List.range 71) j).length ≤ 1000 := by rw [namesT_len _ j (by have := differ_all.1; omega)]; omega
            have HO := Lib.hid ho
            have HBq := Lib.hid hbr
            clear ho hbr
            generalize nameV (j : Int) = n at *
            go_wp2_with fail
            refine (HC.out).mono ?_
            rintro e w2 ⟨rfl, hb2⟩
            have HO2 := Lib.hid (HO.out.below hb2)
            have HB2 := Lib.hid (HBq.out.trans (hb2.mono HBq.out.size))
            clear hb2
            go_wp2_with fail
            refine (hasText_no w2 _ _ n HO2.out.arg HS.out).mono ?_
            rintro e w' ⟨rfl, rfl⟩
            go_wp2_with (at_builtin; refine wpT_append w2 rfl _ _ rfl wl.heap.size _ _ HO2.out rfl n rfl ?d1 ?d2 ?_; rotate_left 2; intro v' w3 hown' hgrow'; have HO3 := Lib.hid hown'; have HG := Lib.hid hgrow'; clear hown' hgrow')
            · go_roundw
              case rel => exact ⟨j + 1, by omega, by go_num, by rw [← HX.out]; exact HO3.out, (HB2.out.alloc HB2.out.size _).grown HG.out (by simp [go_sem]; have := HB2.out.size; omega) HO2.out.base_le⟩
              case measure => simp [intOf]; omega
            case d1 => omega
            case d2 => exact HB2.out.size
          · have hge2 : decide ((j : Int) < 71) = false := by simp; omega
            have HBq := Lib.hid hbr
            have HTq := Lib.hid (HTL.out.below hbr)
            clear ho hbr
            have HDb := fun W => Lib.hid (sDec (b : Int) W (by omega) (by omega))
            have HDs := fun W => Lib.hid (sDec (s : Int) W (by omega) (by omega))
            have HDk := fun W => Lib.hid (sDec (k : Int) W (by omega) (by omega))
            have db := decs_size (k := (b : Int)) (by omega) (by omega)
            have ds := decs_size (k := (s : Int)) (by omega) (by omega)
            have dk := decs_size (k := (k : Int)) (by omega) (by omega)
            obtain ⟨tt, htt⟩ : ∃ tt, tt = (decs (b : Int) ++ (⟨#[32]⟩ : ByteArray)) ++ decs (s : Int) := ⟨_, rfl⟩
            have htz : tt.size = 3 := by rw [htt]; exact twoN_size (by omega) (by omega) (by omega) (by omega)
            have h9 := HN9.out
            have h7 := HN7.out
            rw [show twoN (b : Int) (s : Int) = tt from htt.symm] at h9 h7
            have N9 := fun W h => Lib.hid (gives_s (iName_any W ((z9 : Nat) : Int) h) h9)
            have N7 := fun W h => Lib.hid (gives_s (iName_any W ((z7 : Nat) : Int) h) h7)
            have N71 := fun W h => Lib.hid (gives_s (iName_any W 71 h) name71)
            have HTT := Lib.hid htt
            clear h9 h7 HN9 HN7 htt
            go_wp2_with fail
            refine ((HDb wr).out).mono ?_
            rintro e w4 ⟨rfl, hb4⟩
            have HB4 := Lib.hid (HBq.out.trans (hb4.mono HBq.out.size))
            clear hb4
            go_wp2_with fail
            refine ((HDs w4).out).mono ?_
            rintro e w5 ⟨rfl, hb5⟩
            have hB5 := HB4.out.trans (hb5.mono HB4.out.size)
            go_wp2_with fail
            rw [← HTT.out]
            have c9 := ints_nat (HLI.out.below hB5) (show 9 < 10 by decide)
            have c7 := ints_nat (HLI.out.below hB5) (show 7 < 10 by decide)
            have c4 := ints_nat (HLI.out.below hB5) (show 4 < 10 by decide)
            rw [HZ9.out] at c9
            rw [HZ7.out] at c7
            rw [HZ4.out] at c4
            have HS := Lib.hid (layS_next (Below.drew (Below.refl w5.heap.size w5)) (show w5.cell? ⟨w1.heap.size, 9, none⟩ = some (.int .i64 (z9 : Int)) ∧ w5.cell? ⟨w1.heap.size, 7, none⟩ = some (.int .i64 (z7 : Int)) ∧ w5.cell? ⟨w1.heap.size, 4, none⟩ = some (.int .i64 (z4 : Int)) ∧ LayHeld wl w1.heap.size w5 from ⟨c9, c7, c4, HTL.out.below hB5, hB5, ints_lt (HLI.out.below hB5)⟩))
            generalize decs (k : Int) = dks at *
            clear hb5 hB5 c9 c7 c4 HDb HDs HB4 HBq HTq HTR HLR HTL HLI HD HZ9 HZ7 HZ4 HTT db ds
            go_region_held3 (fun w' => w'.cell? ⟨w1.heap.size, 9, none⟩ = some (.int .i64 (z9 : Int)) ∧ w'.cell? ⟨w1.heap.size, 7, none⟩ = some (.int .i64 (z7 : Int)) ∧ w'.cell? ⟨w1.heap.size, 4, none⟩ = some (.int .i64 (z4 : Int)) ∧ LayHeld wl w1.heap.size w')
              (first | (with_reducible exact HS.out) | assumption | (apply layS_next; assumption; assumption))
              (first | (go_at_call_of 14 z9; (with_reducible refine Calls.mono (Hid.out (N9 _ ?_)) ?_); (exact layS_tab (by assumption)); rintro e w' ⟨rfl, hb⟩) | (go_at_call_of 14 z7; (with_reducible refine Calls.mono (Hid.out (N7 _ ?_)) ?_); (exact layS_tab (by assumption)); rintro e w' ⟨rfl, hb⟩) | (go_at_call 14; (with_reducible refine Calls.mono (Hid.out (N71 _ ?_)) ?_); (exact layS_tab (by assumption)); rintro e w' ⟨rfl, hb⟩) | (go_at_call 16; (with_reducible refine Calls.mono (Hid.out (HDk _)) ?_); rintro e w' ⟨rfl, hb⟩) | (go_at_call 17; (with_reducible refine Calls.mono (Hid.out (CB _)) ?_); rintro e w' ⟨rfl, rfl⟩))
            all_goals (go_wp2_with fail; go_ret; exact ⟨rfl, BL.out.trans ((layS_bel (by assumption)).mono BL.out.size)⟩)

theorem contract (H : Type) (enc : TypeId × Value → H) (W : World) (base : Nat) (args : Array Value) (ds gs : List (DataW H)) (before : List MemPlace)
    (hval : ∀ (j : Nat) t v, Tryd.f3.params[j]? = some t → args[j]? = some v → Value.okWide Tryd.prog W .any base t v)
    (hW : DataW.Whole enc Tryd.prog Tryd.f3.params.toList Rows.fnLayoutSpec.vars false W args.toList ds gs before) (hL : laidMetH Tryd.prog Rows.fnLayoutRow.laid W) :
    Calls Tryd.prog 3 args W fun e W' => ∃ v, e = .returned v ∧ Rows.fnLayoutSpec.post enc Tryd.prog Tryd.f3 false true false false W args v W' := by
  have hW' := hW
  obtain ⟨p, q, hA0, hV, rfl, hfz, hnd⟩ := hW
  have hA : DataW.TrodAll enc Tryd.prog W 0 (fun _ => true) true Tryd.f3.params.toList args.toList ds p := hA0
  rw [Tryd.params3] at hA hval
  obtain ⟨v0, vs0, d0, ds0, p0, q0, hargs, rfl, rfl, h0, r0⟩ := trodAll_cons hA
  obtain ⟨rfl, rfl, rfl⟩ := trodAll_nil r0
  obtain rfl : args = #[v0] := by cases args; simp_all
  obtain ⟨rfl, rfl⟩ := trodVars_none hV
  obtain ⟨a0, len0, cap0, rfl⟩ := okWide_slice Tryd.underlying22 (hval 0 22 v0 rfl rfl)
  have k0 := h0
  have lt0 : ∀ x ∈ p0, x.block < W.heap.size := by obtain ⟨m, hm⟩ := k0; exact DataW.trod_lt m _ _ _ hm
  obtain ⟨z0, w0⟩ : ∃ zs, IsRow W a0 len0 cap0 zs := by
    obtain ⟨fuel, hf⟩ := h0
    rcases open_ints Tryd.underlying22 Tryd.underlying5 (by kernel_rfl) hf with ⟨hcs, _⟩ | ⟨x, l, c, zs, hcs, _, hl, hm, hz, _, hcell, hwz⟩
    · simp [Value.cells] at hcs
      obtain ⟨rfl, rfl, rfl⟩ := hcs
      exact ⟨[], .inl ⟨rfl, rfl, rfl, rfl⟩⟩
    · simp [Value.cells] at hcs
      obtain ⟨rfl, rfl, rfl⟩ := hcs
      exact ⟨zs, .inr ⟨_, rfl, hl, hm, by simpa using hz, hcell, hwz⟩⟩
  clear hA0
  refine (walk W a0 len0 cap0 z0 w0 (pow_of hL)).mono fun e W' ⟨he, bel⟩ => ?_
  subst he
  exact ⟨_, rfl, _, _, _, [], _, [], hW', trodAll_mk1 (shut_bool Tryd.underlying4 _), (trodAll_cons_mk (Below.trod laidOut (by kernel_rfl) (of_decide_eq_true (by kernel_rfl)) k0 bel lt0) trodAll_mk0), rfl, bel.frame _, fun h => by cases h⟩

theorem laid_met (os : Os) : laidMet Tryd.prog Rows.fnLayoutRow.laid ((laidWorld os).forCall (fun _ _ => 0) ⟨#[], #[.slice none 0 0], []⟩).memory :=
  laidMet_of_run' 8 (by kernel_rfl) (by kernel_rfl)
theorem reads (os : Os) {H : Type} (enc : TypeId × Value → H) : ∃ places, DataW.whole enc Tryd.prog ((laidWorld os).forCall (fun _ _ => 0) ⟨#[], #[.slice none 0 0], []⟩).memory Tryd.f3.params.toList Rows.fnLayoutSpec.vars false #[Value.slice none 0 0].toList 8 = some ([.nil], [], places) :=
  ⟨[], by kernel_rfl⟩

set_option maxRecDepth 100000 in
theorem lifted (os : Os) (started : os.Started) (H : Type) (enc : TypeId × Value → H) (F : Stop.Interp) :
    ReturnsInHanded {} Tryd.checked os 3 .any ((OpenSpec.ofChange Rows.fnLayoutSpec).preRow enc Tryd.prog Tryd.f3 Rows.fnLayoutRow.domain false Rows.fnLayoutRow.laid) (((OpenSpec.ofChange Rows.fnLayoutSpec).at F).post enc Tryd.prog Tryd.f3 false true false false) := by
  obtain ⟨places, hx⟩ := reads os enc
  refine returnsInHanded_of_row (C := Tryd.checked) (s := OpenSpec.ofChange Rows.fnLayoutSpec) own started (by kernel_rfl) Tryd.func3
    (witness_row_at (enc := enc) (C := Tryd.checked) false (laidWorld os) #[.slice none 0 0] rfl (by kernel_rfl) (by kernel_rfl) (by kernel_rfl)
      (OpenSpec.preRow_of_cond 8 hx (by kernel_rfl) (fun k hk => by cases hk) (by kernel_rfl) (laid_met os))) ?_
  intro W base args ds gs before hval hW _ _ _ hL _ _
  exact contract H enc W base args ds gs before hval hW hL

theorem said : Rows.FnLayoutSaid :=
  OpenClaim.holds_of_cond 3 Tryd.f3 rfl rfl rfl rfl rfl rfl rfl ⟨rfl, rfl, rfl, rfl, rfl⟩ rfl rfl rfl rfl rfl (by kernel_rfl) Tryd.func3 (by kernel_rfl)
    (of_decide_eq_true (by kernel_rfl)) (by unfold Func.isWrapper; first | (rw [if_pos (by decide +kernel)]; kernel_rfl) | (rw [if_neg (by decide +kernel)]; exact ⟨rfl, rfl⟩))
    (fun os started H enc _ F => by rw [OpenClaim.pre_eq_preRow]; exact lifted os started H enc F)

theorem plain (f : FuncId) (fn : Func) (hf : Tryd.pinned.checked.prog.funcNamed Rows.fnLayoutRow.func = some f) (hfn : Tryd.pinned.checked.prog.funcs[f]? = some fn) :
    Rows.fnLayoutCard.stood.looks = Tryd.pinned.checked.prog.looks [] ∧ ∀ (j : Nat) t, fn.params[j]? = some t → Tryd.pinned.checked.prog.wantsStandIn t = false := by
  obtain rfl : f = 3 := Option.some.inj ((show Tryd.prog.funcNamed Rows.fnLayoutRow.func = some 3 by kernel_rfl).symm.trans hf) |>.symm
  obtain rfl : fn = Tryd.f3 := (Option.some.inj (Tryd.func3.symm.trans hfn)).symm
  refine ⟨by kernel_rfl, fun j t ht => ?_⟩
  rw [Tryd.params3] at ht
  obtain rfl : t = 22 := by simpa using Array.mem_of_getElem? ht
  exact (show Tryd.prog.wantsStandIn 22 = false by kernel_rfl)

end Go.Proofs.YtdefhiblbahhnaaDoor.fnLayout
namespace Go.Proofs.YtdefhiblbahhnaaDoor
theorem fnLayout_holds : Rows.FnLayoutCardSaid :=
  Claim7.holds_tied_plain_at .later [] _ _ _ _ fnLayout.said (fun _ h => by cases h) (by kernel_rfl) (fun _ h => by cases h) fnLayout_row_tie rfl ⟨rfl, rfl⟩ (by kernel_rfl) rfl fnLayout.plain (by kernel_rfl)
end Go.Proofs.YtdefhiblbahhnaaDoor
