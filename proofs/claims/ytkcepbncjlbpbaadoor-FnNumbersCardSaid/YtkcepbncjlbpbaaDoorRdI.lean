/-
  The program's ReadDec returns the number whose numeral of at most nine digits the string is, and true; else 0 and false; where the library's variables read as they were laid. It makes new memory and turns none that was there.
-/
import Derived.Test.YtkcepbncjlbpbaaDoorAtoi
import Derived.Test.YtkcepbncjlbpbaaDoorDecI
import Derived.Test.YtkcepbncjlbpbaaDoorMathF
namespace Go.Proofs.YtkcepbncjlbpbaaDoor
open Go.RowKit M
set_option linter.unusedVariables false
def RdPost (s : ByteArray) (w : World) (e : Ending) (w' : World) : Prop := e = .returned (.tuple #[.int .i64 (rdV s.data.toList), .bool (rdT s.data.toList)]) ∧ Below w.heap.size w w'
theorem rd_range {l : List UInt8} {v : Int} (hA : Lib.atoiAll l = .ok v) (h : v < -999999999 ∨ 999999999 < v) : rd l = none := by
  cases hr : rd l with
  | none => rfl
  | some u =>
    obtain ⟨a, b, _, d⟩ := rd_inv hr
    rw [hA] at d
    injection d with d
    omega
theorem rd_err {l : List UInt8} (hA : ∀ v, Lib.atoiAll l ≠ .ok v) : rd l = none := by
  cases hr : rd l with
  | none => rfl
  | some u =>
    obtain ⟨_, _, _, d⟩ := rd_inv hr
    exact absurd d (hA u)
theorem rd_other {l : List UInt8} {v : Int} (hA : Lib.atoiAll l = .ok v) (h : Lib.itoa v ≠ l) : rd l = none := by
  cases hr : rd l with
  | none => rfl
  | some u =>
    obtain ⟨_, _, c, d⟩ := rd_inv hr
    rw [hA] at d
    injection d with d
    rw [d] at h
    exact absurd c h
set_option maxRecDepth 100000 in
set_option maxHeartbeats 400000 in
theorem iRd (s : ByteArray) (w : World) (hs : s.size ≤ 281474976710656) (he : ErrsLaid w) (ht : Lib.TabIs Tryd.prog w "internal/strconv.uint64pow10" .u64 Lib.pow10Tab) :
    Calls Tryd.prog 13 #[.string s] w (RdPost s w) := by
  by_cases hv : ∃ v, Lib.atoiAll s.data.toList = .ok v
  · obtain ⟨v, hA⟩ := hv
    obtain ⟨b0, b1⟩ := Lib.atoiAll_bounds hA
    have HA := fun W => Lib.hid (atoi_ok s hs v hA W)
    have HD := fun W h => Lib.hid (iDec v W b0 b1 h)
    have HT := Lib.hid ht
    clear ht he hs
    by_cases c0 : v < -999999999
    · have hn := rd_range hA (Or.inl c0)
      have HV := Lib.hid (rdV_none hn)
      have HB := Lib.hid (rdT_none hn)
      clear hn hA
      go_enter Tryd.func13, Tryd.ntmps13
      go_wp2_with (go_at_call 23; refine (HA _).out.mono ?_; rintro e w1 ⟨rfl, hw1⟩)
      go_ret2
      exact ⟨by rw [HV.out, HB.out]; rfl, hw1⟩
    · by_cases c1 : 999999999 < v
      · have hn := rd_range hA (Or.inr c1)
        have HV := Lib.hid (rdV_none hn)
        have HB := Lib.hid (rdT_none hn)
        clear hn hA
        go_enter Tryd.func13, Tryd.ntmps13
        go_wp2_with (go_at_call 23; refine (HA _).out.mono ?_; rintro e w1 ⟨rfl, hw1⟩)
        go_ret2
        exact ⟨by rw [HV.out, HB.out]; rfl, hw1⟩
      · by_cases hi : Lib.itoa v = s.data.toList
        · have hn : rd s.data.toList = some v := rd_of (by omega) (by omega) hi
          have hc := (decs_eq v s).trans (decide_eq_true hi)
          have HV := Lib.hid (rdV_some hn)
          have HB := Lib.hid (rdT_some hn)
          clear hn hA hi
          go_enter Tryd.func13, Tryd.ntmps13
          go_wp2_with (first | (go_at_call 23; refine (HA _).out.mono ?_; rintro e w1 ⟨rfl, hw1⟩; have HT2 := Lib.hid (tab_below hw1 HT.out)) | (go_at_call 14; refine (HD _ (Hid.out (by assumption))).out.mono ?_; rintro e w2 ⟨rfl, hw2⟩))
          go_ret2
          exact ⟨by rw [HV.out, HB.out]; rfl, Below.trans (by assumption) (Below.mono (by assumption) (Below.size (by assumption)))⟩
        · have hn := rd_other hA hi
          have hc := (decs_eq v s).trans (decide_eq_false hi)
          have HV := Lib.hid (rdV_none hn)
          have HB := Lib.hid (rdT_none hn)
          clear hn hA hi
          go_enter Tryd.func13, Tryd.ntmps13
          go_wp2_with (first | (go_at_call 23; refine (HA _).out.mono ?_; rintro e w1 ⟨rfl, hw1⟩; have HT2 := Lib.hid (tab_below hw1 HT.out)) | (go_at_call 14; refine (HD _ (Hid.out (by assumption))).out.mono ?_; rintro e w2 ⟨rfl, hw2⟩))
          go_ret2
          exact ⟨by rw [HV.out, HB.out]; rfl, Below.trans (by assumption) (Below.mono (by assumption) (Below.size (by assumption)))⟩
  · have hA : ∀ v, Lib.atoiAll s.data.toList ≠ .ok v := fun v h => hv ⟨v, h⟩
    have hn := rd_err hA
    have HA := Lib.hid (atoi_no s hs hA w he)
    have HV := Lib.hid (rdV_none hn)
    have HB := Lib.hid (rdT_none hn)
    clear hn hA hv ht he hs
    go_enter Tryd.func13, Tryd.ntmps13
    go_wp2_with (go_at_call 23; refine HA.out.mono ?_; rintro e w1 ⟨n, N, rfl, hw1⟩)
    go_ret2
    exact ⟨by rw [HV.out, HB.out]; rfl, hw1⟩
end Go.Proofs.YtkcepbncjlbpbaaDoor
