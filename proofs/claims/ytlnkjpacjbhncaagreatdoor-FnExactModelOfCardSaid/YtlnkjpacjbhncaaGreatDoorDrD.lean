/-
  Chapter 8, the model's l8Put and ReportIn: a row put into its place by its key; the report of a buffer. They turn nothing that was there.
-/
import Derived.Test.YtlnkjpacjbhncaaGreatDoorDrC
import Derived.Test.YtlnkjpacjbhncaaGreatDoorDrL
import Derived.Test.YtlnkjpacjbhncaaGreatDoorZa
import Derived.BigQuiet
namespace Go.Proofs.YtlnkjpacjbhncaaGreatDoor
open Go.RowKit M
set_option linter.unusedVariables false
set_option linter.unusedSimpArgs false
theorem reportT_zero (zs : List Int) (b : Int) : reportT zs b 0 = [] := rfl
theorem reportT_succ (zs : List Int) (b : Int) (n : Nat) : reportT zs b (n + 1) = addV (reportT zs b n) (rowInV zs b n) := by
  unfold reportT; rw [List.range_succ, List.foldl_append]; rfl
theorem addV_yes {l : List R} {r : R} (h : r.kind ≠ 0) (k : quietV r = false) : addV l r = putV l r := if_pos ⟨h, k⟩
theorem addV_no {l : List R} {r : R} (h : ¬ (r.kind ≠ 0 ∧ quietV r = false)) : addV l r = l := if_neg h
theorem addV_len (l : List R) (r : R) : (addV l r).length ≤ l.length + 1 := by
  unfold addV; split; exact putV_len _ _; omega
theorem reportT_len (zs : List Int) (b : Int) (n : Nat) : (reportT zs b n).length ≤ n := by
  induction n with
  | zero => exact Nat.le_refl _
  | succ n ih => rw [reportT_succ]; exact Nat.le_trans (addV_len _ _) (by omega)
theorem reportIn_len (zs : List Int) (b : Int) : (reportInV zs b).length ≤ 4 := by
  unfold reportInV; split; exact reportT_len _ _ _; simp
set_option maxRecDepth 100000 in
set_option maxHeartbeats 16000000 in
theorem sReportIn_any (w : World) (v : Value) (zs : List Int) (b : Int) (h : Ints w v zs) : Calls Tryz.prog 16 #[v, .int .i64 b] w (MadeR w (reportInV zs b)) := by
  have HOK := fun W h => Lib.hid (sOk_any W v zs h)
  have HIC := fun W => Lib.hid (sIn_any b W)
  have HRI := fun W s h => Lib.hid (sRowIn_any W v zs b s h)
  have HZ := Lib.hid h
  obtain ⟨g0, off0, cap0, rfl, _, _, _, _⟩ := h
  by_cases hok : okC zs = true ∧ bufOk b = true
  case neg =>
    have HE := Lib.hid (show reportInV zs b = [] from if_neg hok)
    have HZ1 := Lib.hid (HZ.out.below ((Below.refl _ _).alloc (Nat.le_refl _) (.cells #[] 60)))
    cases hc : okC zs with
    | false =>
      rw [hc] at HOK
      clear hc hok
      go_enter Tryz.func16, Tryz.ntmps16
      go_wp2_with ((go_at_call 30; (with_reducible refine Calls.mono (Hid.out (HOK _ HZ1.out)) ?_); rintro e w' ⟨rfl, rfl⟩))
      go_ret
      exact ⟨_, rfl, by rw [HE.out]; exact OwnR.empty w _ (Nat.le_refl _), (Below.refl _ _).alloc (Nat.le_refl _) _⟩
    | true =>
      have hbn : ¬ (0 ≤ b ∧ b ≤ 1) := fun x => hok ⟨hc, bufOk_iff.2 x⟩
      rw [inV_no hbn] at HIC
      rw [hc] at HOK
      clear hc hok hbn
      go_enter Tryz.func16, Tryz.ntmps16
      go_wp2_with (first | (go_at_call 30; (with_reducible refine Calls.mono (Hid.out (HOK _ HZ1.out)) ?_); rintro e w' ⟨rfl, rfl⟩) | (go_at_call 35; (with_reducible refine Calls.mono (Hid.out (HIC _)) ?_); rintro e w' ⟨rfl, rfl⟩))
      go_ret
      exact ⟨_, rfl, by rw [HE.out]; exact OwnR.empty w _ (Nat.le_refl _), (Below.refl _ _).alloc (Nat.le_refl _) _⟩
  case pos =>
    have HE := Lib.hid (show reportInV zs b = reportT zs b 4 from if_pos hok)
    have HZ1 := Lib.hid (HZ.out.below ((Below.refl _ _).alloc (Nat.le_refl _) (.cells #[] 60)))
    obtain ⟨hc, hb⟩ := hok
    rw [bufOk_iff] at hb
    rw [inV_yes hb] at HIC
    rw [hc] at HOK
    obtain ⟨b0, b1⟩ := hb
    clear hc
    have i0 : decide (1 + b < 0) = false := by rw [decide_eq_false]; omega
    go_enter Tryz.func16, Tryz.ntmps16
    go_wp2_with (first | (go_at_call 30; (with_reducible refine Calls.mono (Hid.out (HOK _ HZ1.out)) ?_); rintro e w' ⟨rfl, rfl⟩) | (go_at_call 35; (with_reducible refine Calls.mono (Hid.out (HIC _)) ?_); rintro e w' ⟨rfl, rfl⟩))
    clear HZ1 HOK HIC
    go_loopw [5, 6] (fun u x wr => ∃ s : Nat, s ≤ 4 ∧ x = .int .i64 s ∧ OwnR wr w.heap.size u (reportT zs b s) ∧ Below w.heap.size w wr) (fun _ x _ => 4 - (intOf x).toNat)
    case atStart => exact ⟨0, Nat.zero_le _, rfl, OwnR.empty w _ (Nat.le_refl _), (Below.refl _ _).alloc (Nat.le_refl _) _⟩
    case round =>
      obtain ⟨s, hs, rfl, ho, hb⟩ := hrel
      have HLN := Lib.hid (reportT_len zs b s)
      by_cases hlt : s < 4
      · have d1 : (s : Int) < 4 := by omega
        have HNX := Lib.hid (reportT_succ zs b s)
        have HQ := fun W => Lib.hid (sQuiet_any W (rowInV zs b s))
        have HPU := fun W u h hl hb => Lib.hid (sPut_any W w.heap.size u (reportT zs b s) (rowInV zs b s) h hl hb)
        have HR1 := Lib.hid (HRI wr s (HZ.out.below hb)).out
        have HO := Lib.hid ho
        have HB := Lib.hid hb
        clear ho hb
        generalize hrow : rowInV zs b s = r at *
        clear hrow
        generalize reportT zs b s = l at *
        obtain ⟨key, kind, sum, st, last, n', mn, mx, total, dropped⟩ := r
        unfold R.v at HR1 HQ HPU
        simp only at HR1 HQ HPU
        go_wp2_with fail
        refine (HR1.out).mono ?_
        rintro e w2 ⟨rfl, hb2⟩
        have HO2 := Lib.hid (HO.out.below hb2)
        have HB2 := Lib.hid (HB.out.trans (hb2.mono HB.out.size))
        clear hb2 HO HB HR1
        go_upto_region 8 with fail
        refine wp_gen (fun w' => RowAt w' w2.heap.size ⟨key, kind, sum, st, last, n', mn, mx, total, dropped⟩ ∧ OwnR w' w.heap.size _ l ∧ Below w.heap.size w w') ⟨rowAt_new w2 w2.heap.size (⟨key, kind, sum, st, last, n', mn, mx, total, dropped⟩ : R) rfl, HO2.out.alloc _, HB2.out.alloc HB2.out.size _⟩ ?_
        clear HO2 HB2
        generalize w2.heap.size = g at *
        clear w2
        rintro w2 ⟨hx, ho, hb⟩
        obtain ⟨x0, x1, x2, x3, x4, x5, x6, x7, x8, x9, xf⟩ := hx.get
        simp only at x0 x1 x2 x3 x4 x5 x6 x7 x8 x9
        have HO := Lib.hid ho
        have HX := Lib.hid hx
        have HB := Lib.hid hb
        clear ho hx hb
        by_cases hk0 : kind = 0
        · have HA := Lib.hid (HNX.out.trans (addV_no (fun h => h.1 hk0)))
          subst hk0
          go_wp2_with fail
          go_roundw
          case rel => exact ⟨s + 1, by omega, by go_num, by rw [HA.out]; exact HO.out, HB.out⟩
          case measure => simp [intOf]; omega
        · have k0 : (kind != 0) = true := by rw [bne_iff_ne]; exact hk0
          cases hq : quietV ⟨key, kind, sum, st, last, n', mn, mx, total, dropped⟩ with
          | true =>
            have HA := Lib.hid (HNX.out.trans (addV_no (fun h => by rw [hq] at h; cases h.2)))
            rw [hq] at HQ
            clear hq
            go_wp2_with (go_at_call 37; refine (HQ _).out.mono ?_; rintro e w3 ⟨rfl, hb3⟩)
            go_roundw
            case rel => exact ⟨s + 1, by omega, by go_num, by rw [HA.out]; exact HO.out.below hb3, HB.out.trans (hb3.mono HB.out.size)⟩
            case measure => simp [intOf]; omega
          | false =>
            have HA := Lib.hid (HNX.out.trans (addV_yes hk0 hq))
            rw [hq] at HQ
            clear hq
            go_wp2_with fail
            refine (HQ _).out.mono ?_
            rintro e w3 ⟨rfl, hb3⟩
            have HO3 := Lib.hid (HO.out.below hb3)
            have HB3 := Lib.hid (HB.out.trans (hb3.mono HB.out.size))
            have hx3 := HX.out.below hb3
            clear HO HX HB hb3 x0 x1 x2 x3 x4 x5 x6 x7 x8 x9 xf
            obtain ⟨x0, x1, x2, x3, x4, x5, x6, x7, x8, x9, xf⟩ := hx3.get
            simp only at x0 x1 x2 x3 x4 x5 x6 x7 x8 x9
            clear hx3
            go_wp2_with fail
            refine (HPU w3 _ HO3.out (by have := HLN.out; omega) HB3.out.size).out.mono ?_
            rintro e w4 ⟨v4, rfl, ho4, hb4⟩
            have HO4 := Lib.hid ho4
            have HB4 := Lib.hid (HB3.out.trans (hb4.mono HB3.out.size))
            clear ho4 hb4
            go_wp2_with fail
            go_roundw
            case rel => exact ⟨s + 1, by omega, by go_num, by rw [HA.out]; exact HO4.out, HB4.out⟩
            case measure => simp [intOf]; omega
      · have hs4 : s = 4 := by omega
        subst hs4
        have HO := Lib.hid ho
        have HB := Lib.hid hb
        clear ho hb
        go_wp2_with fail
        go_ret
        exact ⟨_, rfl, by rw [HE.out]; exact HO.out, HB.out⟩
end Go.Proofs.YtlnkjpacjbhncaaGreatDoor
