/-
  The model's ReadDec returns the number whose numeral of at most nine digits the string is, and true; else 0 and false. It makes new memory and turns none that was there.
-/
import Derived.Test.YtkcepbncjlbpbaaDoorDecS
import Derived.Test.YtkcepbncjlbpbaaDoorMathF
namespace Go.Proofs.YtkcepbncjlbpbaaDoor
open Go.RowKit M
set_option linter.unusedVariables false
def RdPostS (s : ByteArray) (w : World) (e : Ending) (w' : World) : Prop := e = .returned (.tuple #[.int .i64 (rdV s.data.toList), .bool (rdT s.data.toList)]) ∧ Below w.heap.size w w'
theorem step_in (s : ByteArray) (j : Nat) (h : j < s.size) (h0 : 48 ≤ s[j].toNat) (h1 : s[j].toNat ≤ 57) : ((rdA (s.data.toList.take (j + 1)) : Nat) : Int) = (rdA (s.data.toList.take j) : Int) * 10 + ((s[j].toNat : Int) - 48) ∧ rdC (s.data.toList.take (j + 1)) = rdC (s.data.toList.take j) + 1 := by
  rw [rdA_take s j h, rdC_take s j h, stepN, stepK, if_pos ⟨h0, h1⟩, if_pos ⟨h0, h1⟩]
  omega
theorem step_out (s : ByteArray) (j : Nat) (h : j < s.size) (h0 : ¬ (48 ≤ s[j].toNat ∧ s[j].toNat ≤ 57)) : rdA (s.data.toList.take (j + 1)) = rdA (s.data.toList.take j) ∧ rdC (s.data.toList.take (j + 1)) = rdC (s.data.toList.take j) := by
  rw [rdA_take s j h, rdC_take s j h, stepN, stepK, if_neg h0, if_neg h0]
  exact ⟨rfl, rfl⟩
set_option maxRecDepth 100000 in
set_option maxHeartbeats 800000 in
theorem sRd (s : ByteArray) (w : World) (hs : s.size ≤ maxLen) :
    Calls Tryd.prog 19 #[.string s] w (RdPostS s w) := by
  unfold maxLen at hs
  go_enter Tryd.func19, Tryd.ntmps19
  go_wp2
  go_loop [4, 5, 6] (fun n k i => ∃ j : Nat, j ≤ s.size ∧ j ≤ 11 ∧ i = .int .i64 j ∧ n = .int .i64 (rdA (s.data.toList.take j)) ∧ k = .int .i64 (rdC (s.data.toList.take j))) (fun _ _ i => 11 - (intOf i).toNat)
  case atStart => exact ⟨0, Nat.zero_le _, Nat.zero_le _, rfl, rfl, rfl⟩
  case round =>
    obtain ⟨j, hj, hj11, rfl, rfl, rfl⟩ := hrel
    have hb := rdA_take_lt s j hj11
    obtain ⟨hb1, hb2⟩ := hb
    by_cases hlt : j < s.size
    · have hd : decide (j < s.size) = true := by simp; omega
      by_cases h11 : j < 11
      · have hd11 : decide ((j : Int) < 11) = true := by simp; omega
        have hc : s[j].toNat < 256 := s[j].toNat_lt
        by_cases d0 : 48 ≤ s[j].toNat
        · by_cases d1 : s[j].toNat ≤ 57
          · have hst := step_in s j hlt d0 d1
            have H1 := Lib.hid hst.1
            have H2 := Lib.hid hst.2
            clear hst
            have i0 : (48 : Int) ≤ (s[j].toNat : Int) := by omega
            have i1 : (s[j].toNat : Int) ≤ 57 := by omega
            go_wp2
            go_round
            case rel => exact ⟨j + 1, by omega, by omega, by go_num, by rw [H1.out], by rw [H2.out]; go_num⟩
            case measure => simp [intOf]; omega
          · have hst := step_out s j hlt (by omega)
            have H1 := Lib.hid hst.1
            have H2 := Lib.hid hst.2
            clear hst
            have i0 : (48 : Int) ≤ (s[j].toNat : Int) := by omega
            have i1 : ¬ (s[j].toNat : Int) ≤ 57 := by omega
            go_wp2
            go_round
            case rel => exact ⟨j + 1, by omega, by omega, by go_num, by rw [H1.out], by rw [H2.out]⟩
            case measure => simp [intOf]; omega
        · have hst := step_out s j hlt (by omega)
          have H1 := Lib.hid hst.1
          have H2 := Lib.hid hst.2
          clear hst
          have i0 : ¬ (48 : Int) ≤ (s[j].toNat : Int) := by omega
          go_wp2
          go_round
          case rel => exact ⟨j + 1, by omega, by omega, by go_num, by rw [H1.out], by rw [H2.out]⟩
          case measure => simp [intOf]; omega
      · have hd11 : decide ((j : Int) < 11) = false := by simp; omega
        have hn := rd_no_long (l := s.data.toList) (by rw [len_data]; omega)
        have HV := Lib.hid (rdV_none hn)
        have HB := Lib.hid (rdT_none hn)
        have hl10 : (10 : Int) < (s.size : Int) := by omega
        clear hn
        go_wp2
        all_goals
          go_ret2
          exact ⟨by rw [HV.out, HB.out]; rfl, Below.refl _ _⟩
    · obtain rfl : j = s.size := by omega
      have hd : decide (s.size < s.size) = false := by simp
      rw [take_all] at hb1 hb2
      simp only [take_all]
      by_cases hl : 10 < s.size
      · have hn := rd_no_long (l := s.data.toList) (by rw [len_data]; omega)
        have HV := Lib.hid (rdV_none hn)
        have HB := Lib.hid (rdT_none hn)
        have hl10 : (10 : Int) < (s.size : Int) := by omega
        clear hn
        go_wp2
        all_goals
          go_ret2
          exact ⟨by rw [HV.out, HB.out]; rfl, Below.refl _ _⟩
      · have hl10 : (s.size : Int) ≤ 10 := by omega
        by_cases hk : 9 < rdC s.data.toList
        · have hn := rd_no_digits hk
          have HV := Lib.hid (rdV_none hn)
          have HB := Lib.hid (rdT_none hn)
          have hk10 : (9 : Int) < (rdC s.data.toList : Int) := by omega
          clear hn
          go_wp2
          all_goals
            go_ret2
            exact ⟨by rw [HV.out, HB.out]; rfl, Below.refl _ _⟩
        · have hk9 : rdC s.data.toList ≤ 9 := by omega
          have hk10 : (rdC s.data.toList : Int) ≤ 9 := by omega
          by_cases h0 : 0 < s.size
          · by_cases h45 : s[0].toNat = 45
            · have HS : rdS s.data.toList = -(rdA s.data.toList : Int) := by unfold rdS; rw [if_pos ((head_45 s h0).2 h45)]
              have ht45 : ((s[0].toNat : Int) == 45) = true := by rw [beq_iff_eq]; omega
              have HD := fun W => Lib.hid (sDec (-(rdA s.data.toList : Int)) W (by omega) (by omega))
              by_cases hi : Lib.itoa (-(rdA s.data.toList : Int)) = s.data.toList
              · have hn : rd s.data.toList = some (-(rdA s.data.toList : Int)) := HS ▸ rd_yes hk9 (by rw [HS]; exact hi)
                have hcmp := (decs_eq (-(rdA s.data.toList : Int)) s).trans (decide_eq_true hi)
                have HV := Lib.hid (rdV_some hn)
                have HB := Lib.hid (rdT_some hn)
                clear hn hi HS
                go_wp2_with (go_at_call 18; refine (HD _).out.mono ?_; rintro e w1 ⟨rfl, hw1⟩)
                go_ret2
                exact ⟨by rw [HV.out, HB.out]; rfl, by assumption⟩
              · have hn : rd s.data.toList = none := rd_no (by rw [HS]; exact hi)
                have hcmp := (decs_eq (-(rdA s.data.toList : Int)) s).trans (decide_eq_false hi)
                have HV := Lib.hid (rdV_none hn)
                have HB := Lib.hid (rdT_none hn)
                clear hn hi HS
                go_wp2_with (go_at_call 18; refine (HD _).out.mono ?_; rintro e w1 ⟨rfl, hw1⟩)
                go_ret2
                exact ⟨by rw [HV.out, HB.out]; rfl, by assumption⟩
            · have HS : rdS s.data.toList = (rdA s.data.toList : Int) := by unfold rdS; rw [if_neg (fun h => h45 ((head_45 s h0).1 h))]
              have ht45 : ((s[0].toNat : Int) == 45) = false := by rw [beq_eq_false_iff_ne]; omega
              have HD := fun W => Lib.hid (sDec (rdA s.data.toList : Int) W (by omega) (by omega))
              by_cases hi : Lib.itoa ((rdA s.data.toList : Int)) = s.data.toList
              · have hn : rd s.data.toList = some ((rdA s.data.toList : Int)) := HS ▸ rd_yes hk9 (by rw [HS]; exact hi)
                have hcmp := (decs_eq ((rdA s.data.toList : Int)) s).trans (decide_eq_true hi)
                have HV := Lib.hid (rdV_some hn)
                have HB := Lib.hid (rdT_some hn)
                clear hn hi HS
                go_wp2_with (go_at_call 18; refine (HD _).out.mono ?_; rintro e w1 ⟨rfl, hw1⟩)
                go_ret2
                exact ⟨by rw [HV.out, HB.out]; rfl, by assumption⟩
              · have hn : rd s.data.toList = none := rd_no (by rw [HS]; exact hi)
                have hcmp := (decs_eq ((rdA s.data.toList : Int)) s).trans (decide_eq_false hi)
                have HV := Lib.hid (rdV_none hn)
                have HB := Lib.hid (rdT_none hn)
                clear hn hi HS
                go_wp2_with (go_at_call 18; refine (HD _).out.mono ?_; rintro e w1 ⟨rfl, hw1⟩)
                go_ret2
                exact ⟨by rw [HV.out, HB.out]; rfl, by assumption⟩
          · have hnil : s.data.toList = [] := List.eq_nil_of_length_eq_zero (by rw [len_data]; omega)
            have HS : rdS s.data.toList = (rdA s.data.toList : Int) := by unfold rdS; rw [hnil]; rfl
            clear hnil
            have HD := fun W => Lib.hid (sDec (rdA s.data.toList : Int) W (by omega) (by omega))
            by_cases hi : Lib.itoa ((rdA s.data.toList : Int)) = s.data.toList
            · have hn : rd s.data.toList = some ((rdA s.data.toList : Int)) := HS ▸ rd_yes hk9 (by rw [HS]; exact hi)
              have hcmp := (decs_eq ((rdA s.data.toList : Int)) s).trans (decide_eq_true hi)
              have HV := Lib.hid (rdV_some hn)
              have HB := Lib.hid (rdT_some hn)
              clear hn hi HS
              go_wp2_with (go_at_call 18; refine (HD _).out.mono ?_; rintro e w1 ⟨rfl, hw1⟩)
              go_ret2
              exact ⟨by rw [HV.out, HB.out]; rfl, by assumption⟩
            · have hn : rd s.data.toList = none := rd_no (by rw [HS]; exact hi)
              have hcmp := (decs_eq ((rdA s.data.toList : Int)) s).trans (decide_eq_false hi)
              have HV := Lib.hid (rdV_none hn)
              have HB := Lib.hid (rdT_none hn)
              clear hn hi HS
              go_wp2_with (go_at_call 18; refine (HD _).out.mono ?_; rintro e w1 ⟨rfl, hw1⟩)
              go_ret2
              exact ⟨by rw [HV.out, HB.out]; rfl, by assumption⟩
end Go.Proofs.YtkcepbncjlbpbaaDoor
