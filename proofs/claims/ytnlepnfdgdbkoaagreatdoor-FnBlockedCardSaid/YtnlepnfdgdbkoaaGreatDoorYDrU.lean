/-
  Texts of this seat, laid together.
-/
import Derived.Test.YtnlepnfdgdbkoaaGreatDoorYMf
import Derived.Test.YtnlepnfdgdbkoaaGreatDoorYZa
import Derived.Test.YtnlepnfdgdbkoaaGreatDoorYZb
namespace Go.Proofs.YtnlepnfdgdbkoaaGreatDoor
open Go.RowKit M
set_option linter.unusedVariables false
set_option linter.unusedSimpArgs false
theorem oneV_short {rs : List R} (h : rs.length < 2) : oneV rs = rs := by
  match rs, h with
  | [], _ => rfl
  | [x], _ => rfl
def NewTo (rs : List R) (k : Nat) : Prop := ∀ j, j < k → newKey rs j = true
theorem newKey_at {rs : List R} {k : Nat} : newKey rs (k + 1) = !decide ((rs.getD (k + 1) zeroR).key = (rs.getD k zeroR).key) := by
  unfold newKey
  rw [decide_eq_false (by omega), Bool.false_or]; rfl
theorem one_all {rs : List R} (h : NewTo rs rs.length) : oneV rs = rs := by
  rw [← keptL_one, keptL_all (Nat.le_refl _) h, List.take_length]
set_option maxRecDepth 100000 in
set_option maxHeartbeats 8000000 in
theorem iCompact_any (w : World) (base g n cap : Nat) (rs : List R) (h : OwnR w base (.slice (some ⟨g, 0, none⟩) n cap) rs) (hn : rs.length = n) :
    Calls Tryz.prog 136 #[.slice (some ⟨g, 0, none⟩) n cap, .func (.func 137) #[] #[]] w (InPlace w base g cap (oneV rs)) := by
  obtain ⟨hc1, hc2⟩ := h.capLe hn
  have hg := h.inB.2
  have HO := Lib.hid h
  have HNL := Lib.hid hn
  have HEQ := fun W r s => Lib.hid (iEq_any W r s)
  unfold maxLen at hc2
  clear h hn
  by_cases h2 : n < 2
  · have HE := Lib.hid (oneV_short (rs := rs) (by rw [HNL.out]; exact h2))
    have hd : decide ((n : Int) < 2) = true := by rw [decide_eq_true]; omega
    have hd2 : (n : Int) < 2 := by omega
    go_enter Tryz.func136, Tryz.ntmps136
    go_wp2_with fail
    go_ret
    exact ⟨n, by rw [HE.out, HNL.out], rfl, by rw [HE.out]; exact HO.out, ⟨rfl, rfl, rfl, Nat.le_refl _, fun _ _ _ => rfl⟩⟩
  have hd : decide ((n : Int) < 2) = false := by rw [decide_eq_false]; omega
  have hd2 : ¬ (n : Int) < 2 := by omega
  go_enter Tryz.func136, Tryz.ntmps136
  go_wp2_with fail
  go_loopw [5] (fun vk wr => ∃ k : Nat, k + 1 ≤ n ∧ vk = .int .i64 ((k + 1 : Nat) : Int) ∧ NewTo rs (k + 1) ∧ OwnR wr base (.slice (some ⟨g, 0, none⟩) n cap) rs ∧ w.grownBy wr (some g)) (fun vk _ => n - (intOf vk).toNat)
  case atStart => exact ⟨0, by omega, by go_num, fun j hj => by (obtain rfl : j = 0 := by omega); rfl, HO.out, ⟨rfl, rfl, rfl, Nat.le_refl _, fun _ _ _ => rfl⟩⟩
  case round =>
    obtain ⟨k, hk, rfl, hnew, ho, hgr⟩ := hrel
    have HNEW := Lib.hid hnew
    clear hnew HO
    by_cases hlt : k + 1 < n
    · have hltz : ((k + 1 : Nat) : Int) < (n : Int) := by omega
      have HS := Lib.hid (show OwnR wr.drew base (.slice (some ⟨g, 0, none⟩) n cap) rs ∧ w.grownBy wr.drew (some g) from ⟨ho.below (below_drew _ _), grownR_trans hgr (grown_below (below_drew _ _))⟩)
      have HROW := Lib.hid (fun W (h : OwnR W base (.slice (some ⟨g, 0, none⟩) n cap) rs) => (show Row10 W g ((k + 1) * 10) (rs.getD (k + 1) zeroR) ∧ Row10 W g (k * 10) (rs.getD k zeroR) from ⟨h.at HNL.out (k + 1) hlt, h.at HNL.out k (by omega)⟩))
      have HC2 := fun W => Lib.hid (HEQ W (rs.getD (k + 1) zeroR) (rs.getD k zeroR)).out
      have hnk := newKey_at (rs := rs) (k := k)
      clear ho hgr
      generalize rs.getD (k + 1) zeroR = x at *
      generalize rs.getD k zeroR = y at *
      have hp1 : (k : Int) + 1 < (n : Int) := by omega
      have hp2 : (0 : Int) ≤ (k : Int) + 1 := by omega
      have hp3 : ((k : Int) + 1).toNat = k + 1 := by omega
      have hp4 : (k : Int) < (n : Int) := by omega
      have hp5 : IntKind.i64.wrap ((k : Int) + 1 - 1) = (k : Int) := by rw [IntKind.wrap_i64]; omega
      have hp6 : IntKind.i64.wrap (k : Int) = (k : Int) := by rw [IntKind.wrap_i64]; omega
      obtain ⟨key, kind, sum, st, last, n1, mn, mx, total, dropped⟩ := x
      obtain ⟨key', kind', sum', st', last', n1', mn', mx', total', dropped'⟩ := y
      unfold R.v at HC2
      simp only at HC2 hnk
      generalize decide (key = key') = c at *
      go_wp2_with fail
      have HCL := (⟨HS.out⟩ : HoldsC (fun W => OwnR W base (.slice (some ⟨g, 0, none⟩) n cap) rs ∧ w.grownBy W (some g)) _)
      have hall : ∀ p : Prop, (∀ W, HoldsC (fun W => OwnR W base (.slice (some ⟨g, 0, none⟩) n cap) rs ∧ w.grownBy W (some g)) W → p) ↔ p := fun p => ⟨fun h => h _ HCL, fun h _ _ => h⟩
      refine wp_region_wq (C := HoldsC (fun W => OwnR W base (.slice (some ⟨g, 0, none⟩) n cap) rs ∧ w.grownBy W (some g))) (by kernel_rfl) (by kernel_rfl) HCL ?_
      repeat (refine WQ.step (fun K hK => ?_); go_simp; first | (refine hK _ ?_; clear hK K) | (apply Exists.intro; refine ⟨fun W hW => ?_, hK _ ?_⟩; (focus (first | (go_at_call 137; (with_reducible refine Calls.mono (Hid.out (HC2 _)) ?_); rintro e w' ⟨rfl, hb'⟩; exact ⟨rfl, ⟨hW.out.1.below hb', grownR_trans hW.out.2 (grown_below hb')⟩⟩) | exact rfl | (obtain ⟨hO, hG⟩ := hW.out; obtain ⟨hRx, hRy⟩ := HROW.out _ hO; obtain ⟨x0, x1, x2, x3, x4, x5, x6, x7, x8, x9⟩ := hRx.get; obtain ⟨y0, y1, y2, y3, y4, y5, y6, y7, y8, y9⟩ := hRy.get; simp only at x0 x1 x2 x3 x4 x5 x6 x7 x8 x9 y0 y1 y2 y3 y4 y5 y6 y7 y8 y9; go_simp; rfl))); clear hK K))
      refine WQ.nil ?_
      intro W hW
      obtain ⟨hO, hG⟩ := hW.out; obtain ⟨hRx, hRy⟩ := HROW.out _ hO; obtain ⟨x0, x1, x2, x3, x4, x5, x6, x7, x8, x9⟩ := hRx.get; obtain ⟨y0, y1, y2, y3, y4, y5, y6, y7, y8, y9⟩ := hRy.get; simp only at x0 x1 x2 x3 x4 x5 x6 x7 x8 x9 y0 y1 y2 y3 y4 y5 y6 y7 y8 y9
      clear hall HCL
      have HO3 := Lib.hid hO
      have HG3 := Lib.hid hG
      clear hW hO hG HS hRx hRy HROW HC2 x0 x1 x2 x3 x4 x5 x6 x7 x8 x9 y0 y1 y2 y3 y4 y5 y6 y7 y8 y9
      cases c with
      | false =>
        go_wp2_with fail
        go_roundw
        case rel =>
          refine ⟨k + 1, by omega, by go_num, fun j hj => ?_, HO3.out, HG3.out⟩
          by_cases e : j = k + 1
          · subst e; exact hnk
          · exact HNEW.out j (by omega)
        case measure => simp [intOf]; omega
      | true =>
        have hs := strikeV_start (kp := newKey rs) (l := rs) (k := k + 1) (by rw [HNL.out]; exact hlt) HNEW.out hnk
        have HS := Lib.hid hs
        clear hs hnk
        have hq1 : ¬ cap = k + 1 := by omega
        have hq2 : (k : Int) + 1 ≤ (cap : Int) := by omega
        have hq3 : (k : Int) + 1 ≤ (n : Int) := by omega
        go_upto_region 8 with fail
        generalize hdd : n - (k + 1) = d at *
        generalize hcd : cap - (k + 1) = cd at *
        have hd1 : k + 1 + d = n := by omega
        have hd2' : d ≤ cd := by omega
        clear hp1 hp2 hp3 hp4 hp5 hp6 hq1 hq2 hq3 hdd
        go_wp2_with fail
        obtain ⟨wo, rfl⟩ : ∃ wo : World, wo = wr := ⟨_, rfl⟩
        go_loopw [5, 7] (fun vl vq wr2 => ∃ q : Nat, q + 1 ≤ d ∧ vq = .int .i64 ((q + 1 : Nat) : Int) ∧ vl = .int .i64 ((keptL (newKey rs) rs (k + q + 2)).length : Nat) ∧ (keptL (newKey rs) rs (k + q + 2)).length < k + q + 2 ∧ OwnR wr2 base (.slice (some ⟨g, 0, none⟩) n cap) (strikeV (newKey rs) rs (k + q + 2)) ∧ w.grownBy wr2 (some g)) (fun _ vq _ => d - (intOf vq).toNat)
        case atStart =>
          have e : (keptL (newKey rs) rs (k + 0 + 2)).length = k + 1 := by rw [show k + 0 + 2 = k + 1 + 1 by omega, HS.out.1, List.length_take, HNL.out]; omega
          exact ⟨0, by omega, by go_num, by rw [e]; go_num, by omega, by rw [show k + 0 + 2 = k + 1 + 1 by omega, HS.out.2]; exact HO3.out, HG3.out⟩
        case round =>
          obtain ⟨q, hq, rfl, rfl, hL, ho, hgr⟩ := hrel
          have hsl : (strikeV (newKey rs) rs (k + q + 2)).length = n := by rw [strikeV_length (by rw [HNL.out]; omega), HNL.out]
          clear HS HO3 HG3 HNEW
          by_cases hq2 : q + 1 < d
          · have hmn : k + q + 2 < n := by omega
            have HS := Lib.hid (show OwnR wr.drew base (.slice (some ⟨g, 0, none⟩) n cap) (strikeV (newKey rs) rs (k + q + 2)) ∧ w.grownBy wr.drew (some g) from ⟨ho.below (below_drew _ _), grownR_trans hgr (grown_below (below_drew _ _))⟩)
            have HSL := Lib.hid hsl
            have HROW := Lib.hid (fun W (h : OwnR W base (.slice (some ⟨g, 0, none⟩) n cap) (strikeV (newKey rs) rs (k + q + 2))) => (show Row10 W g ((k + 1) * 10 + (q + 1) * 10) (rs.getD (k + q + 2) zeroR) ∧ Row10 W g ((k + 1) * 10 + q * 10) (rs.getD (k + q + 1) zeroR) from by
              have r1 := h.at HSL.out (k + q + 2) hmn
              have r2 := h.at HSL.out (k + q + 1) (by omega)
              rw [strikeV_high _ (by omega)] at r1 r2
              rw [show (k + 1) * 10 + (q + 1) * 10 = (k + q + 2) * 10 by omega, show (k + 1) * 10 + q * 10 = (k + q + 1) * 10 by omega]
              exact ⟨r1, r2⟩))
            have HC2 := fun W => Lib.hid (HEQ W (rs.getD (k + q + 2) zeroR) (rs.getD (k + q + 1) zeroR)).out
            have hnk := newKey_at (rs := rs) (k := k + q + 1)
            have HK := Lib.hid (fun (h : newKey rs (k + q + 2) = true) => strikeV_keep (kp := newKey rs) (l := rs) (m := k + q + 2) (by rw [HNL.out]; exact hmn) h)
            have HKN := Lib.hid (fun (h : newKey rs (k + q + 2) = false) => strikeV_skip (kp := newKey rs) (l := rs) (m := k + q + 2) h)
            clear ho hgr hsl
            rw [show k + q + 1 + 1 = k + q + 2 by omega] at hnk
            generalize rs.getD (k + q + 2) zeroR = x at *
            generalize rs.getD (k + q + 1) zeroR = y at *
            generalize hL2 : (keptL (newKey rs) rs (k + q + 2)).length = L at *
            have HL2 := Lib.hid hL2
            clear hL2
            have hp1 : (q : Int) + 1 < (d : Int) := by omega
            have hp2 : (0 : Int) ≤ (q : Int) + 1 := by omega
            have hp3 : ((q : Int) + 1).toNat = q + 1 := by omega
            have hp4 : (q : Int) < (d : Int) := by omega
            have hp5 : IntKind.i64.wrap ((q : Int) + 1 - 1) = (q : Int) := by rw [IntKind.wrap_i64]; omega
            have hp6 : IntKind.i64.wrap (q : Int) = (q : Int) := by rw [IntKind.wrap_i64]; omega
            have hLn : (L : Int) < (n : Int) := by omega
            obtain ⟨key, kind, sum, st, last, n1, mn, mx, total, dropped⟩ := x
            obtain ⟨key', kind', sum', st', last', n1', mn', mx', total', dropped'⟩ := y
            unfold R.v at HC2
            simp only at HC2 hnk
            generalize decide (key = key') = c at *
            go_wp2_with fail
            have HCL := (⟨HS.out⟩ : HoldsC (fun W => OwnR W base (.slice (some ⟨g, 0, none⟩) n cap) (strikeV (newKey rs) rs (k + q + 2)) ∧ w.grownBy W (some g)) _)
            have hall : ∀ p : Prop, (∀ W, HoldsC (fun W => OwnR W base (.slice (some ⟨g, 0, none⟩) n cap) (strikeV (newKey rs) rs (k + q + 2)) ∧ w.grownBy W (some g)) W → p) ↔ p := fun p => ⟨fun h => h _ HCL, fun h _ _ => h⟩
            refine wp_region_wq (C := HoldsC (fun W => OwnR W base (.slice (some ⟨g, 0, none⟩) n cap) (strikeV (newKey rs) rs (k + q + 2)) ∧ w.grownBy W (some g))) (by kernel_rfl) (by kernel_rfl) HCL ?_
            repeat (refine WQ.step (fun K hK => ?_); go_simp; first | (refine hK _ ?_; clear hK K) | (apply Exists.intro; refine ⟨fun W hW => ?_, hK _ ?_⟩; (focus (first | (go_at_call 137; (with_reducible refine Calls.mono (Hid.out (HC2 _)) ?_); rintro e w' ⟨rfl, hb'⟩; exact ⟨rfl, ⟨hW.out.1.below hb', grownR_trans hW.out.2 (grown_below hb')⟩⟩) | exact rfl | (obtain ⟨hO, hG⟩ := hW.out; obtain ⟨hRx, hRy⟩ := HROW.out _ hO; obtain ⟨x0, x1, x2, x3, x4, x5, x6, x7, x8, x9⟩ := hRx.get; obtain ⟨y0, y1, y2, y3, y4, y5, y6, y7, y8, y9⟩ := hRy.get; simp only at x0 x1 x2 x3 x4 x5 x6 x7 x8 x9 y0 y1 y2 y3 y4 y5 y6 y7 y8 y9; go_simp; rfl))); clear hK K))
            refine WQ.nil ?_
            intro W hW
            obtain ⟨hO, hG⟩ := hW.out; obtain ⟨hRx, hRy⟩ := HROW.out _ hO; obtain ⟨x0, x1, x2, x3, x4, x5, x6, x7, x8, x9⟩ := hRx.get; obtain ⟨y0, y1, y2, y3, y4, y5, y6, y7, y8, y9⟩ := hRy.get; simp only at x0 x1 x2 x3 x4 x5 x6 x7 x8 x9 y0 y1 y2 y3 y4 y5 y6 y7 y8 y9
            clear hall HCL
            have HO3 := Lib.hid hO
            have HG3 := Lib.hid hG
            clear hW hO hG HS hRx hRy HROW HC2 y0 y1 y2 y3 y4 y5 y6 y7 y8 y9
            cases c with
            | true =>
              have HK2 := Lib.hid (HKN.out hnk)
              clear HK HKN hnk
              go_wp2_with fail
              go_roundw
              case rel => exact ⟨q + 1, by omega, by go_num, by rw [show k + (q + 1) + 2 = k + q + 2 + 1 by omega, HK2.out.1, HL2.out], by rw [show k + (q + 1) + 2 = k + q + 2 + 1 by omega, HK2.out.1, HL2.out]; omega, by rw [show k + (q + 1) + 2 = k + q + 2 + 1 by omega, HK2.out.2]; exact HO3.out, HG3.out⟩
              case measure => simp [intOf]; omega
            | false =>
              have HK2 := Lib.hid (HK.out hnk)
              clear HK HKN hnk
              have hLn2 : L < n := by omega
              obtain ⟨z0, z1, z2, z3, z4, z5, z6, z7, z8, z9⟩ := (HO3.out.at HSL.out L hLn2).get
              have zf := HO3.out.frz HSL.out
              go_wp2_with fail
              go_roundw
              case rel =>
                have hst := HO3.out.put HSL.out L hLn2 ⟨key, kind, sum, st, last, n1, mn, mx, total, dropped⟩
                exact ⟨q + 1, by omega, by go_num, by rw [show k + (q + 1) + 2 = k + q + 2 + 1 by omega, HK2.out.1]; go_num, by rw [show k + (q + 1) + 2 = k + q + 2 + 1 by omega, HK2.out.1]; omega, by rw [show k + (q + 1) + 2 = k + q + 2 + 1 by omega, HK2.out.2]; exact hst.1, grownR_trans HG3.out hst.2⟩
              case measure => simp [intOf]; omega
          · have hqd : k + q + 2 = n := by omega
            have hE := strikeV_done (newKey rs) rs (k + q + 2)
            have hF : keptL (newKey rs) rs (k + q + 2) = oneV rs := by rw [← keptL_one, HNL.out, hqd]
            rw [hF] at hE hL
            rw [hF]
            have hln : (oneV rs).length < n := by omega
            have hcl := fun ty c => clear_rows ho hsl (oneV rs).length hln ty c
            have HCUT := Lib.hid (fun cs => ho.cut hsl (oneV rs).length (Nat.le_of_lt hln) cs)
            rw [hE] at HCUT
            have HG2 := Lib.hid hgr
            have hqz : ¬ (q : Int) + 1 < (d : Int) := by omega
            clear ho hgr hsl hE hF
            generalize hL2 : (oneV rs).length = L at *
            have HL := Lib.hid hL2
            clear hL2
            go_wp2_with fail
            go_ret
            exact ⟨L, HL.out.symm, rfl, (HCUT.out _).1, grownR_trans HG2.out (HCUT.out _).2⟩
    · have hkn : k + 1 = n := by omega
      have HE := Lib.hid (one_all (rs := rs) (by rw [HNL.out, ← hkn]; exact HNEW.out))
      have HO3 := Lib.hid ho
      have HG3 := Lib.hid hgr
      have hltz : ¬ ((k + 1 : Nat) : Int) < (n : Int) := by omega
      have hltz2 : ¬ (k : Int) + 1 < (n : Int) := by omega
      clear ho hgr
      go_wp2_with fail
      go_ret
      exact ⟨n, by rw [HE.out, HNL.out], rfl, by rw [HE.out]; exact HO3.out, HG3.out⟩
end Go.Proofs.YtnlepnfdgdbkoaaGreatDoor
