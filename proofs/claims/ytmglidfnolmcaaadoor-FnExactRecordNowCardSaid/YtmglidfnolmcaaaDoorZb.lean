/-
  Several small texts of this proof, one behind another: each says ahead of itself what it proves.
-/
import Derived.Test.YtmglidfnolmcaaaDoorZa
import Derived.Test.YtmglidfnolmcaaaDoorKeyI
import Derived.Lib.Strings
import Derived.Lib.Bytealg
import Derived.Laws.Externs
import Derived.Test.YtmglidfnolmcaaaDoorNowS
import Derived.OwnWalk
import Derived.Test.YtmglidfnolmcaaaDoorRows
import Derived.WalkKit
import Derived.ProofKit
import Derived.Deep.DeepHandedRow
import Derived.Deep.DeepWitnessRowRef
import Derived.LaidLaws
import Derived.LaidSub
import Derived.MakeChecks
import Derived.KernelRfl
import Derived.Lib.AtoiAllCases
import Derived.Lib.ItoaNum
import Derived.Lib.Hide
import Derived.Deep.RegionHeld3
/-
  Chapter 5, the program's functions: each answers what the plain words say. They turn nothing that was there.
-/
namespace Go.Proofs.YtmglidfnolmcaaaDoor
open Go.RowKit M
set_option linter.unusedVariables false
theorem isKind_yes (k : Int) (w : World) (h0 : 1 ≤ k) (h1 : k ≤ 3) : Calls Tryd.prog 76 #[.int .i64 k] w (Same w (.bool true)) := by
  go_enter Tryd.func76, Tryd.ntmps76
  go_wp2
  go_ret
  exact ⟨rfl, rfl⟩
theorem isKind_no (k : Int) (w : World) (h : ¬ (1 ≤ k ∧ k ≤ 3)) : Calls Tryd.prog 76 #[.int .i64 k] w (Same w (.bool false)) := by
  by_cases h0 : 1 ≤ k
  · have h1 : decide (k ≤ 3) = false := by rw [decide_eq_false]; omega
    go_enter Tryd.func76, Tryd.ntmps76
    go_wp2
    go_ret
    exact ⟨rfl, rfl⟩
  · have h1 : decide (1 ≤ k) = false := by rw [decide_eq_false]; omega
    go_enter Tryd.func76, Tryd.ntmps76
    go_wp2
    go_ret
    exact ⟨rfl, rfl⟩
theorem isValue_yes (k : Int) (w : World) (h0 : 0 ≤ k) (h1 : k ≤ 65535) : Calls Tryd.prog 25 #[.int .i64 k] w (Same w (.bool true)) := by
  go_enter Tryd.func25, Tryd.ntmps25
  go_wp2
  go_ret
  exact ⟨rfl, rfl⟩
theorem isValue_no (k : Int) (w : World) (h : ¬ (0 ≤ k ∧ k ≤ 65535)) : Calls Tryd.prog 25 #[.int .i64 k] w (Same w (.bool false)) := by
  by_cases h0 : 0 ≤ k
  · have h1 : decide (k ≤ 65535) = false := by rw [decide_eq_false]; omega
    go_enter Tryd.func25, Tryd.ntmps25
    go_wp2
    go_ret
    exact ⟨rfl, rfl⟩
  · have h1 : decide (0 ≤ k) = false := by rw [decide_eq_false]; omega
    go_enter Tryd.func25, Tryd.ntmps25
    go_wp2
    go_ret
    exact ⟨rfl, rfl⟩
theorem isStamp_yes (k : Int) (w : World) (h0 : 1 ≤ k) (h1 : k ≤ 65535) : Calls Tryd.prog 79 #[.int .i64 k] w (Same w (.bool true)) := by
  go_enter Tryd.func79, Tryd.ntmps79
  go_wp2
  go_ret
  exact ⟨rfl, rfl⟩
theorem isStamp_no (k : Int) (w : World) (h : ¬ (1 ≤ k ∧ k ≤ 65535)) : Calls Tryd.prog 79 #[.int .i64 k] w (Same w (.bool false)) := by
  by_cases h0 : 1 ≤ k
  · have h1 : decide (k ≤ 65535) = false := by rw [decide_eq_false]; omega
    go_enter Tryd.func79, Tryd.ntmps79
    go_wp2
    go_ret
    exact ⟨rfl, rfl⟩
  · have h1 : decide (1 ≤ k) = false := by rw [decide_eq_false]; omega
    go_enter Tryd.func79, Tryd.ntmps79
    go_wp2
    go_ret
    exact ⟨rfl, rfl⟩
theorem iPackGauge_same (w : World) (a v : Int) : Calls Tryd.prog 60 #[.int .i64 a, .int .i64 v] w (Same w (.int .i64 (gaugeV a v))) := by
  by_cases ha : 1 ≤ a ∧ a ≤ 65535
  · by_cases hv : 0 ≤ v ∧ v ≤ 65535
    · have E := Lib.hid (gaugeV_yes ⟨ha, hv⟩)
      obtain ⟨a1, a2⟩ := ha
      obtain ⟨v1, v2⟩ := hv
      go_enter Tryd.func60, Tryd.ntmps60
      go_wp2_with (first | (go_at_call 79; refine (isStamp_yes _ _ (by omega) (by omega)).mono ?_; rintro e w' ⟨rfl, rfl⟩) | (go_at_call 25; refine (isValue_yes _ _ (by omega) (by omega)).mono ?_; rintro e w' ⟨rfl, rfl⟩))
      go_ret
      exact ⟨ret_i (by rw [E.out]; omega), rfl⟩
    · have E := Lib.hid (gaugeV_no (a := a) (fun h => hv h.2))
      go_enter Tryd.func60, Tryd.ntmps60
      go_wp2_with (first | (go_at_call 79; refine (isStamp_yes _ _ ha.1 ha.2).mono ?_; rintro e w' ⟨rfl, rfl⟩) | (go_at_call 25; refine (isValue_no _ _ hv).mono ?_; rintro e w' ⟨rfl, rfl⟩))
      go_ret
      exact ⟨ret_i E.out.symm, rfl⟩
  · have E := Lib.hid (gaugeV_no (v := v) (fun h => ha h.1))
    go_enter Tryd.func60, Tryd.ntmps60
    go_wp2_with (go_at_call 79; refine (isStamp_no _ _ ha).mono ?_; rintro e w' ⟨rfl, rfl⟩)
    go_ret
    exact ⟨ret_i E.out.symm, rfl⟩
theorem iUnpackGauge_same (w : World) (n : Int) (h0 : -9223372036854775808 ≤ n) (h1 : n ≤ 9223372036854775807) :
    Calls Tryd.prog 59 #[.int .i64 n] w (Same w (.tuple #[.int .i64 (ungA n), .int .i64 (ungV n)])) := by
  by_cases hn : 0 ≤ n
  · by_cases h : 65536 ≤ n ∧ n ≤ 4294967295
    · have E := Lib.hid (show ungA n = n / 65536 from if_pos h)
      have E2 := Lib.hid (show ungV n = n % 65536 from if_pos h)
      have d1 : 1 ≤ n / 65536 := by omega
      have d2 : n / 65536 ≤ 65535 := by omega
      go_enter Tryd.func59, Tryd.ntmps59
      go_wp2_with (go_at_call 79; refine (isStamp_yes _ _ d1 d2).mono ?_; rintro e w' ⟨rfl, rfl⟩)
      go_ret2
      exact ⟨ret_ii E.out.symm E2.out.symm, rfl⟩
    · have E := Lib.hid (show ungA n = 0 from if_neg h)
      have E2 := Lib.hid (show ungV n = 0 from if_neg h)
      have d : ¬ (1 ≤ n / 65536 ∧ n / 65536 ≤ 65535) := by omega
      go_enter Tryd.func59, Tryd.ntmps59
      go_wp2_with (go_at_call 79; refine (isStamp_no _ _ d).mono ?_; rintro e w' ⟨rfl, rfl⟩)
      go_ret2
      exact ⟨ret_ii E.out.symm E2.out.symm, rfl⟩
  · have E := Lib.hid (show ungA n = 0 from if_neg (by omega))
    have E2 := Lib.hid (show ungV n = 0 from if_neg (by omega))
    have hq : n.tdiv 65536 ≤ 0 := by
      have := Int.tdiv_nonneg (a := -n) (b := 65536) (by omega) (by omega)
      rw [Int.neg_tdiv] at this; omega
    have d : ¬ (1 ≤ n.tdiv 65536 ∧ n.tdiv 65536 ≤ 65535) := by omega
    clear hq
    go_enter Tryd.func59, Tryd.ntmps59
    go_wp2_with (go_at_call 79; refine (isStamp_no _ _ d).mono ?_; rintro e w' ⟨rfl, rfl⟩)
    go_ret2
    exact ⟨ret_ii E.out.symm E2.out.symm, rfl⟩
theorem iPackGauge_any (w : World) (a v : Int) (h0 : -9223372036854775808 ≤ a) (h1 : a ≤ 9223372036854775807) (h2 : -9223372036854775808 ≤ v) (h3 : v ≤ 9223372036854775807) : Calls Tryd.prog 60 #[.int .i64 a, .int .i64 v] w (Gives (.int .i64 (gaugeV a v)) w) := same_gives (iPackGauge_same w a v)
theorem iUnpackGauge_any (w : World) (n : Int) (h0 : -9223372036854775808 ≤ n) (h1 : n ≤ 9223372036854775807) : Calls Tryd.prog 59 #[.int .i64 n] w (Gives (.tuple #[.int .i64 (ungA n), .int .i64 (ungV n)]) w) := same_gives (iUnpackGauge_same w n h0 h1)
end Go.Proofs.YtmglidfnolmcaaaDoor
/-
  Chapter 4, the program's UnpackKey: the key that a number has, or none. It makes new memory and turns none that was there.
-/
namespace Go.Proofs.YtmglidfnolmcaaaDoor
open Go.RowKit M
set_option linter.unusedVariables false
/-- The four bytes of a number; none where it has more, or is negative. -/
def four (n : Int) : ByteArray := if 0 ≤ n ∧ n ≤ 4294967295 then fxs n.toNat 4 else ⟨#[]⟩
theorem iFx4 (n : Int) (w : World) (h0 : -9223372036854775808 ≤ n) (h1 : n ≤ 9223372036854775807) :
    Calls Tryd.prog 97 #[.int .i64 n, .int .i64 4] w (Gives (.string (four n)) w) := by
  by_cases h : 0 ≤ n
  · obtain ⟨m, rfl⟩ := Int.eq_ofNat_of_zero_le h
    by_cases k : 256 ^ 4 ≤ m
    · have e : four (m : Int) = ⟨#[]⟩ := if_neg (by omega)
      rw [e]
      exact (iFx_big m 4 w (by omega) (by decide) (by decide) k).mono fun _ _ q => gives_same q
    · have e : four (m : Int) = fxs m 4 := if_pos (by omega)
      rw [e]
      exact (iFx_good m 4 w (by omega) (by decide) (by decide) k).mono fun _ _ q => q
  · have e : four n = ⟨#[]⟩ := if_neg (by omega)
    rw [e]
    exact (iFx_bad n 4 w (by omega)).mono fun _ _ q => gives_same q
theorem u8_zero (m : Nat) : (UInt8.ofNat m == 0) = decide (m % 256 = 0) := by
  by_cases h : m % 256 = 0
  · rw [decide_eq_true h, beq_iff_eq]
    apply UInt8.toNat_inj.1
    simpa using h
  · rw [decide_eq_false h, beq_eq_false_iff_ne]
    intro e
    apply h
    have := congrArg UInt8.toNat e
    simpa using this
theorem trim_fx {n : Nat} (h : n ≤ 4294967295) : Lib.trimLeftB (fx n 4) 0 = fx n (nbV n) := by
  have hd : n / 256 ^ 3 = n / 16777216 ∧ n / 256 ^ 2 = n / 65536 ∧ n / 256 ^ 1 = n / 256 ∧ n / 256 ^ 0 = n := ⟨rfl, rfl, rfl, by simp⟩
  by_cases h0 : n = 0
  · subst h0; decide
  · by_cases h1 : n < 256
    · rw [nb_1 (by omega)]
      have a3 : decide (dv n 3 % 256 = 0) = true := decide_eq_true (by unfold dv; omega)
      have a2 : decide (dv n 2 % 256 = 0) = true := decide_eq_true (by unfold dv; omega)
      have a1 : decide (dv n 1 % 256 = 0) = true := decide_eq_true (by unfold dv; omega)
      have a0 : decide (dv n 0 % 256 = 0) = false := decide_eq_false (by unfold dv; omega)
      simp [fx, Lib.trimLeftB, List.dropWhile, u8_zero, a3, a2, a1, a0, -decide_eq_true_eq, -decide_eq_false_iff_not]
    · by_cases h2 : n < 65536
      · rw [nb_2 (by omega)]
        have a3 : decide (dv n 3 % 256 = 0) = true := decide_eq_true (by unfold dv; omega)
        have a2 : decide (dv n 2 % 256 = 0) = true := decide_eq_true (by unfold dv; omega)
        have a1 : decide (dv n 1 % 256 = 0) = false := decide_eq_false (by unfold dv; omega)
        simp [fx, Lib.trimLeftB, List.dropWhile, u8_zero, a3, a2, a1, -decide_eq_true_eq, -decide_eq_false_iff_not]
      · by_cases h3 : n < 16777216
        · rw [nb_3 (by omega)]
          have a3 : decide (dv n 3 % 256 = 0) = true := decide_eq_true (by unfold dv; omega)
          have a2 : decide (dv n 2 % 256 = 0) = false := decide_eq_false (by unfold dv; omega)
          simp [fx, Lib.trimLeftB, List.dropWhile, u8_zero, a3, a2, -decide_eq_true_eq, -decide_eq_false_iff_not]
        · rw [nb_4 (by omega)]
          have a3 : decide (dv n 3 % 256 = 0) = false := decide_eq_false (by unfold dv; omega)
          simp [fx, Lib.trimLeftB, u8_zero, a3, -decide_eq_true_eq, -decide_eq_false_iff_not]
/-- What stands behind the zeros. -/
def bare (n : Int) : ByteArray := ⟨(Lib.trimLeftB (four n).data.toList 0).toArray⟩
theorem bare_in {n : Int} (h : 0 ≤ n ∧ n ≤ 4294967295) : bare n = unb n.toNat := by
  have e : four n = fxs n.toNat 4 := if_pos h
  have t := trim_fx (n := n.toNat) (by omega)
  unfold bare
  rw [e, show (fxs n.toNat 4).data.toList = fx n.toNat 4 from rfl, t]
  rfl
theorem bare_out {n : Int} (h : ¬ (0 ≤ n ∧ n ≤ 4294967295)) : bare n = ⟨#[]⟩ := by
  have e : four n = ⟨#[]⟩ := if_neg h
  unfold bare; rw [e]; rfl
theorem bare_size (n : Int) : (bare n).size ≤ 4 := by
  by_cases h : 0 ≤ n ∧ n ≤ 4294967295
  · rw [bare_in h, unb_size]; exact nbV_le _
  · rw [bare_out h]; exact Nat.zero_le _
theorem key_empty : keyOkV ⟨#[]⟩ = false := by decide
theorem unV_bare (n : Int) : unV n = if keyOkV (bare n) = true then some (bare n) else none := by
  by_cases h : 1 ≤ n ∧ n ≤ 4294967295
  · rw [bare_in (by omega)]; exact if_pos h
  · have e : unV n = none := if_neg h
    by_cases h' : 0 ≤ n ∧ n ≤ 4294967295
    · obtain rfl : n = 0 := by omega
      rw [e, bare_in h']
      rfl
    · rw [e, bare_out h', key_empty]; rfl
set_option maxRecDepth 100000 in
theorem iUnpack_any (w : World) (n : Int) (h0 : -9223372036854775808 ≤ n) (h1 : n ≤ 9223372036854775807) :
    Calls Tryd.prog 75 #[.int .i64 n] w (Gives (unT (unV n)) w) := by
  have HF := Lib.hid (iFx4 n w h0 h1)
  have HT := fun W => Lib.hid (Tryd.strings_TrimLeft_one (four n) 0 (by decide) W)
  have hs : (bare n).size ≤ maxLen := by have := bare_size n; unfold maxLen; omega
  have HK := fun W => Lib.hid (iKeyOk_same W (bare n) hs)
  have E := Lib.hid (unV_bare n)
  have HB := Lib.hid (show (⟨(Lib.trimLeftB (four n).data.toList 0).toArray⟩ : ByteArray) = bare n from rfl)
  rw [HB.out] at HT
  clear HB hs
  generalize bare n = s at *
  generalize four n = f at *
  cases hk : keyOkV s with
  | false =>
    rw [hk] at HK
    rw [if_neg (by rw [hk]; simp)] at E
    clear hk
    go_enter Tryd.func75, Tryd.ntmps75
    go_wp2_with fail
    refine HF.out.mono ?_
    rintro e w1 ⟨rfl, hb1⟩
    go_wp2_with fail
    refine (HT w1).out.mono ?_
    rintro e w2 ⟨rfl, rfl⟩
    go_wp2_with fail
    refine (HK _).out.mono ?_
    rintro e w3 ⟨rfl, rfl⟩
    go_wp2_with fail
    go_ret2
    exact ⟨by rw [E.out]; rfl, hb1⟩
  | true =>
    rw [hk] at HK
    rw [if_pos hk] at E
    clear hk
    go_enter Tryd.func75, Tryd.ntmps75
    go_wp2_with fail
    refine HF.out.mono ?_
    rintro e w1 ⟨rfl, hb1⟩
    go_wp2_with fail
    refine (HT w1).out.mono ?_
    rintro e w2 ⟨rfl, rfl⟩
    go_wp2_with fail
    refine (HK _).out.mono ?_
    rintro e w3 ⟨rfl, rfl⟩
    go_wp2_with fail
    go_ret2
    exact ⟨by rw [E.out]; rfl, hb1⟩
end Go.Proofs.YtmglidfnolmcaaaDoor
/-
  Chapter 5, the program's Untag: the key and the kind of a number, or none. It makes new memory and turns none that was there.
-/
namespace Go.Proofs.YtmglidfnolmcaaaDoor
open Go.RowKit M
set_option linter.unusedVariables false
theorem untagV_pos {n : Int} (h : 0 ≤ n) : untagV n = (match unV (n / 4) with | some s => if 1 ≤ n % 4 then some (s, n % 4) else none | none => none) := by
  by_cases hn : 1 ≤ n ∧ n ≤ 17179869183
  · exact if_pos hn
  · have e : unV (n / 4) = none := if_neg (by omega)
    rw [e]
    exact if_neg hn
theorem unV_low {n : Int} (h : n ≤ 0) : unV n = none := if_neg (by omega)
set_option maxRecDepth 100000 in
theorem iUntag_any (w : World) (n : Int) (h0 : -9223372036854775808 ≤ n) (h1 : n ≤ 9223372036854775807) :
    Calls Tryd.prog 53 #[.int .i64 n] w (Gives (untT (untagV n)) w) := by
  by_cases hn : 0 ≤ n
  · have E := untagV_pos hn
    have HU := Lib.hid (iUnpack_any w (n / 4) (by omega) (by omega))
    have m0 : 0 ≤ n % 4 := by omega
    have m3 : n % 4 ≤ 3 := by omega
    cases hu : unV (n / 4) with
    | none =>
      rw [hu] at E
      rw [hu, unT_none] at HU
      have HE := Lib.hid E
      clear hu E
      go_enter Tryd.func53, Tryd.ntmps53
      go_wp2_with (go_at_call 75; refine HU.out.mono ?_; rintro e w2 ⟨rfl, hb⟩)
      go_ret2
      exact ⟨by rw [HE.out]; rfl, hb⟩
    | some s =>
      rw [hu] at E
      rw [hu, unT_some] at HU
      simp only at E
      by_cases hr : 1 ≤ n % 4
      · rw [if_pos hr] at E
        have HE := Lib.hid E
        clear hu E
        go_enter Tryd.func53, Tryd.ntmps53
        go_wp2_with (first | (go_at_call 75; refine HU.out.mono ?_; rintro e w2 ⟨rfl, hb⟩) | (go_at_call 76; refine (isKind_yes _ _ (by omega) (by omega)).mono ?_; rintro e w' ⟨rfl, rfl⟩))
        go_ret2
        exact ⟨by rw [HE.out]; rfl, hb⟩
      · rw [if_neg hr] at E
        have HE := Lib.hid E
        clear hu E
        go_enter Tryd.func53, Tryd.ntmps53
        go_wp2_with (first | (go_at_call 75; refine HU.out.mono ?_; rintro e w2 ⟨rfl, hb⟩) | (go_at_call 76; refine (isKind_no _ _ (by omega)).mono ?_; rintro e w' ⟨rfl, rfl⟩))
        go_ret2
        exact ⟨by rw [HE.out]; rfl, hb⟩
  · have E := Lib.hid (show untagV n = none from if_neg (by omega))
    have hq : n.tdiv 4 ≤ 0 := by
      have := Int.tdiv_nonneg (a := -n) (b := 4) (by omega) (by omega)
      rw [Int.neg_tdiv] at this; omega
    have hq2 : -9223372036854775808 ≤ n.tdiv 4 := by
      have : (-n).tdiv 4 = (-n) / 4 := Int.tdiv_eq_ediv_of_nonneg (by omega)
      rw [Int.neg_tdiv] at this; omega
    have HU := Lib.hid (iUnpack_any w (n.tdiv 4) hq2 (by omega))
    rw [unV_low hq, unT_none] at HU
    clear hq
    go_enter Tryd.func53, Tryd.ntmps53
    go_wp2_with (go_at_call 75; refine HU.out.mono ?_; rintro e w2 ⟨rfl, hb⟩)
    go_ret2
    exact ⟨by rw [E.out]; rfl, hb⟩
end Go.Proofs.YtmglidfnolmcaaaDoor
/-
  Chapter 8 in plain words: the rows of the slots that are not quiet, sorted by their keys, the first of each key: the report built row by row.
-/
namespace Go.Proofs.YtmglidfnolmcaaaDoor
open Go.RowKit M
set_option linter.unusedVariables false
theorem bl_irrefl (x : List UInt8) : Go.Op.bytesLess x x = false := by
  induction x with
  | nil => rfl
  | cons a x ih =>
    have : ¬ a < a := fun k => by have : a.toNat < a.toNat := k; omega
    simp [Go.Op.bytesLess, ih, this]
theorem bl_trans (x y z : List UInt8) (h1 : Go.Op.bytesLess x y = true) (h2 : Go.Op.bytesLess y z = true) : Go.Op.bytesLess x z = true := by
  induction x generalizing y z with
  | nil =>
    cases z with
    | nil => cases y <;> simp [Go.Op.bytesLess] at h2
    | cons c z => rfl
  | cons a x ih =>
    cases y with
    | nil => simp [Go.Op.bytesLess] at h1
    | cons b y =>
      cases z with
      | nil => simp [Go.Op.bytesLess] at h2
      | cons c z =>
        simp only [Go.Op.bytesLess, Bool.or_eq_true, Bool.and_eq_true, decide_eq_true_eq, beq_iff_eq] at h1 h2 ⊢
        rcases h1 with h1 | ⟨rfl, h1⟩
        · rcases h2 with h2 | ⟨rfl, h2⟩
          · exact .inl (by have a1 : a.toNat < b.toNat := h1; have a2 : b.toNat < c.toNat := h2; show a.toNat < c.toNat; omega)
          · exact .inl h1
        · rcases h2 with h2 | ⟨rfl, h2⟩
          · exact .inl h2
          · exact .inr ⟨rfl, ih _ _ h1 h2⟩
theorem bl_total (x y : List UInt8) (h1 : Go.Op.bytesLess x y = false) (h2 : Go.Op.bytesLess y x = false) : x = y := by
  induction x generalizing y with
  | nil => cases y with
    | nil => rfl
    | cons b y => simp [Go.Op.bytesLess] at h1
  | cons a x ih =>
    cases y with
    | nil => simp [Go.Op.bytesLess] at h2
    | cons b y =>
      simp only [Go.Op.bytesLess, Bool.or_eq_false_iff, decide_eq_false_iff_not, Bool.and_eq_false_iff, beq_eq_false_iff_ne] at h1 h2
      have e : a = b := by
        have a1 : ¬ a.toNat < b.toNat := h1.1
        have a2 : ¬ b.toNat < a.toNat := h2.1
        exact UInt8.toNat_inj.1 (by omega)
      subst e
      rw [ih y (by rcases h1.2 with k | k; exact absurd rfl k; exact k) (by rcases h2.2 with k | k; exact absurd rfl k; exact k)]
theorem strLt_irrefl (x : ByteArray) : strLt x x = false := bl_irrefl _
theorem strLt_trans {x y z : ByteArray} (h1 : strLt x y = true) (h2 : strLt y z = true) : strLt x z = true := bl_trans _ _ _ h1 h2
theorem strLt_total {x y : ByteArray} (h1 : strLt x y = false) (h2 : strLt y x = false) : x = y := by
  have := bl_total _ _ h1 h2
  have e : ∀ b : ByteArray, b.toList = b.data.toList := Go.Lib.toList_data
  rw [e, e] at this
  cases x; cases y
  simp only [ByteArray.mk.injEq]
  exact Array.ext' this
theorem strLt_le_trans {x y z : ByteArray} (h1 : strLt x y = true) (h2 : strLt z y = false) : strLt x z = true := by
  cases h : strLt x z with
  | true => rfl
  | false =>
    by_cases e : strLt z x = true
    · rw [strLt_trans e h1] at h2; cases h2
    · have := strLt_total h (by simpa using e)
      subst this; rw [h1] at h2; cases h2
theorem strLe_lt_trans {x y z : ByteArray} (h1 : strLt y x = false) (h2 : strLt y z = true) : strLt x z = true := by
  cases h : strLt x z with
  | true => rfl
  | false =>
    by_cases e : strLt z x = true
    · rw [strLt_trans h2 e] at h1; cases h1
    · have := strLt_total h (by simpa using e)
      subst this; rw [h2] at h1; cases h1
theorem strLe_trans {x y z : ByteArray} (h1 : strLt y x = false) (h2 : strLt z y = false) : strLt z x = false := by
  cases h : strLt z x with
  | false => rfl
  | true => rw [strLt_le_trans h h1] at h2; cases h2
/-- The rows in the order of their keys, alike ones in the order in which they came. -/
def sortV (l : List R) : List R := l.foldl (fun s r => insV r s) []
/-- No row lies ahead of one with a smaller key, none is smaller than k. -/
def UpV (k : ByteArray) : List R → Prop
  | [] => True
  | x :: l => strLt x.key k = false ∧ UpV x.key l
def AscV : List R → Prop
  | [] => True
  | x :: l => UpV x.key l
theorem UpV.ins {k : ByteArray} {l : List R} (h : UpV k l) (r : R) (hr : strLt r.key k = false) : UpV k (insV r l) := by
  induction l generalizing k with
  | nil => exact ⟨hr, trivial⟩
  | cons x l ih =>
    simp only [insV]
    cases e : strLt r.key x.key with
    | true =>
      refine ⟨hr, ?_, h.2⟩
      cases e2 : strLt x.key r.key with
      | false => rfl
      | true => have := strLt_trans e e2; rw [strLt_irrefl] at this; cases this
    | false => exact ⟨h.1, ih h.2 e⟩
theorem AscV.ins {l : List R} (h : AscV l) (r : R) : AscV (insV r l) := by
  cases l with
  | nil => exact trivial
  | cons x l =>
    simp only [insV]
    cases e : strLt r.key x.key with
    | true =>
      refine ⟨?_, h⟩
      cases e2 : strLt x.key r.key with
      | false => rfl
      | true => have := strLt_trans e e2; rw [strLt_irrefl] at this; cases this
    | false => exact UpV.ins h r e
theorem asc_sort (l : List R) : AscV (sortV l) := by
  have : ∀ (l s : List R), AscV s → AscV (l.foldl (fun s r => insV r s) s) := by
    intro l
    induction l with
    | nil => exact fun s h => h
    | cons x l ih => exact fun s h => ih _ (h.ins x)
  exact this l [] trivial
theorem UpV.all {k : ByteArray} {l : List R} (h : UpV k l) : ∀ x ∈ l, strLt x.key k = false := by
  induction l generalizing k with
  | nil => intro x hx; cases hx
  | cons y l ih =>
    intro x hx
    rcases List.mem_cons.1 hx with rfl | hx
    · exact h.1
    · exact strLe_trans h.1 (ih h.2 x hx)
/-- Where r is put into rows in order: behind A, ahead of B. -/
theorem ins_at (r : R) (A B : List R) (hA : AscV (A ++ B)) (h1 : A = [] ∨ ∃ A' a, A = A' ++ [a] ∧ strLt r.key a.key = false) (h2 : B = [] ∨ ∃ b B', B = b :: B' ∧ strLt r.key b.key = true) : insV r (A ++ B) = A ++ r :: B := by
  have base : insV r B = r :: B := by
    rcases h2 with rfl | ⟨b, B', rfl, hb⟩
    · rfl
    · simp [insV, hb]
  have main : ∀ A : List R, (∀ x ∈ A, strLt r.key x.key = false) → insV r (A ++ B) = A ++ r :: B := by
    intro A hA
    induction A with
    | nil => exact base
    | cons x A ih =>
      simp only [List.cons_append, insV, hA x List.mem_cons_self, Bool.false_eq_true, if_false]
      rw [ih (fun y hy => hA y (List.mem_cons_of_mem _ hy))]
  apply main
  rcases h1 with rfl | ⟨A', a, rfl, ha⟩
  · intro x hx; cases hx
  · have up : ∀ (A' : List R) (k : ByteArray) (B : List R), UpV k (A' ++ [a] ++ B) → ∀ x ∈ A', strLt a.key x.key = false := by
      intro A'
      induction A' with
      | nil => intro k B _ x hx; cases hx
      | cons y A' ih =>
        intro k B h x hx
        rcases List.mem_cons.1 hx with rfl | hx
        · exact UpV.all h.2 a (by simp)
        · exact ih _ B h.2 x hx
    intro x hx
    rcases List.mem_append.1 hx with hx | hx
    · refine strLe_trans ?_ ha
      cases A' with
      | nil => cases hx
      | cons y A' =>
        rcases List.mem_cons.1 hx with rfl | hx
        · exact UpV.all (show UpV x.key (A' ++ [a] ++ B) from hA) a (by simp)
        · exact up A' y.key B hA x hx
    · rw [List.mem_singleton] at hx; subst hx; exact ha
/-- Of rows with one key, side by side, the first. -/
def oneFrom (k : ByteArray) : List R → List R
  | [] => []
  | x :: l => if x.key = k then oneFrom k l else x :: oneFrom x.key l
def oneV : List R → List R
  | [] => []
  | x :: l => x :: oneFrom x.key l
theorem one_mem (k : ByteArray) (l : List R) (c : ByteArray) : c = k ∨ (∃ y ∈ oneFrom k l, y.key = c) ↔ c = k ∨ ∃ y ∈ l, y.key = c := by
  induction l generalizing k with
  | nil => rfl
  | cons x l ih =>
    simp only [oneFrom]
    by_cases e : x.key = k
    · rw [if_pos e, ih]
      constructor
      · rintro (h | ⟨y, hy, h⟩)
        · exact .inl h
        · exact .inr ⟨y, List.mem_cons_of_mem _ hy, h⟩
      · rintro (h | ⟨y, hy, h⟩)
        · exact .inl h
        · rcases List.mem_cons.1 hy with rfl | hy
          · exact .inl (h.symm.trans e)
          · exact .inr ⟨y, hy, h⟩
    · rw [if_neg e]
      have := ih x.key
      constructor
      · rintro (h | ⟨y, hy, h⟩)
        · exact .inl h
        · rcases List.mem_cons.1 hy with rfl | hy
          · exact .inr ⟨y, List.mem_cons_self, h⟩
          · rcases this.1 (.inr ⟨y, hy, h⟩) with h | ⟨y, hy, h⟩
            · exact .inr ⟨x, List.mem_cons_self, h.symm⟩
            · exact .inr ⟨y, List.mem_cons_of_mem _ hy, h⟩
      · rintro (h | ⟨y, hy, h⟩)
        · exact .inl h
        · rcases List.mem_cons.1 hy with rfl | hy
          · exact .inr ⟨y, List.mem_cons_self, h⟩
          · rcases this.2 (.inr ⟨y, hy, h⟩) with h | ⟨y, hy, h⟩
            · exact .inr ⟨x, List.mem_cons_self, h.symm⟩
            · exact .inr ⟨y, List.mem_cons_of_mem _ hy, h⟩
theorem strLt_ne {x y : ByteArray} (h : strLt x y = true) : x ≠ y := fun e => by subst e; rw [strLt_irrefl] at h; cases h
theorem oneFrom_ins (r : R) (k : ByteArray) (l : List R) (h : UpV k l) (hr : strLt r.key k = false) :
    oneFrom k (insV r l) = if r.key = k ∨ ∃ y ∈ l, y.key = r.key then oneFrom k l else insV r (oneFrom k l) := by
  classical
  induction l generalizing k with
  | nil => simp [insV, oneFrom]
  | cons x l ih =>
    simp only [insV]
    cases e : strLt r.key x.key with
    | true =>
      have hxr : x.key ≠ r.key := fun k => strLt_ne e k.symm
      have hall : ¬ ∃ y ∈ x :: l, y.key = r.key := by
        rintro ⟨y, hy, e2⟩
        rcases List.mem_cons.1 hy with rfl | hy
        · exact hxr e2
        · have := UpV.all h.2 y hy
          rw [e2, e] at this; cases this
      have hxk : x.key ≠ k := fun e2 => by rw [e2, hr] at e; cases e
      rw [if_pos rfl]
      by_cases hk : r.key = k
      · rw [if_pos (.inl hk)]
        show (if r.key = k then _ else _) = _
        rw [if_pos hk]
      · rw [if_neg (by rintro (h9 | h9); exact hk h9; exact hall h9)]
        simp only [oneFrom, if_neg hk, if_neg hxr, if_neg hxk, insV, e, if_true]
    | false =>
      rw [if_neg (by simp)]
      by_cases hxk : x.key = k
      · simp only [oneFrom, if_pos hxk]
        rw [ih k (hxk ▸ h.2) hr]
        have hiff : (r.key = k ∨ ∃ y ∈ l, y.key = r.key) ↔ (r.key = k ∨ ∃ y ∈ x :: l, y.key = r.key) := by
          constructor
          · rintro (h9 | ⟨y, hy, h9⟩)
            · exact .inl h9
            · exact .inr ⟨y, List.mem_cons_of_mem _ hy, h9⟩
          · rintro (h9 | ⟨y, hy, h9⟩)
            · exact .inl h9
            · rcases List.mem_cons.1 hy with rfl | hy
              · exact .inl (h9.symm.trans hxk)
              · exact .inr ⟨y, hy, h9⟩
        by_cases c : r.key = k ∨ ∃ y ∈ l, y.key = r.key
        · rw [if_pos c, if_pos (hiff.1 c)]
        · rw [if_neg c, if_neg (fun d => c (hiff.2 d))]
      · simp only [oneFrom, if_neg hxk]
        rw [ih x.key h.2 e]
        have hrk : r.key ≠ k := fun e2 => hxk (strLt_total h.1 (by rw [← e2]; exact e))
        have hiff : (r.key = x.key ∨ ∃ y ∈ l, y.key = r.key) ↔ (r.key = k ∨ ∃ y ∈ x :: l, y.key = r.key) := by
          constructor
          · rintro (h9 | ⟨y, hy, h9⟩)
            · exact .inr ⟨x, List.mem_cons_self, h9.symm⟩
            · exact .inr ⟨y, List.mem_cons_of_mem _ hy, h9⟩
          · rintro (h9 | ⟨y, hy, h9⟩)
            · exact absurd h9 hrk
            · rcases List.mem_cons.1 hy with rfl | hy
              · exact .inl h9.symm
              · exact .inr ⟨y, hy, h9⟩
        by_cases c : r.key = x.key ∨ ∃ y ∈ l, y.key = r.key
        · rw [if_pos c, if_pos (hiff.1 c)]
        · rw [if_neg c, if_neg (fun d => c (hiff.2 d))]
          simp only [insV, e, Bool.false_eq_true, if_false]
theorem oneV_ins (r : R) (l : List R) (h : AscV l) : oneV (insV r l) = putV (oneV l) r := by
  classical
  cases l with
  | nil => rfl
  | cons x l =>
    have hany : ((oneV (x :: l)).any fun y => decide (y.key = r.key)) = true ↔ r.key = x.key ∨ ∃ y ∈ l, y.key = r.key := by
      rw [← one_mem]
      simp only [oneV, List.any_cons, Bool.or_eq_true, decide_eq_true_eq, List.any_eq_true]
      constructor
      · rintro (h | h)
        · exact .inl h.symm
        · exact .inr h
      · rintro (h | h)
        · exact .inl h.symm
        · exact .inr h
    unfold putV
    simp only [insV]
    cases e : strLt r.key x.key with
    | true =>
      have hxr : x.key ≠ r.key := fun k => strLt_ne e k.symm
      have hall : ¬ (r.key = x.key ∨ ∃ y ∈ l, y.key = r.key) := by
        rintro (h1 | ⟨y, hy, e2⟩)
        · exact hxr h1.symm
        · have := UpV.all h y hy
          rw [e2, e] at this; cases this
      rw [if_pos rfl, if_neg (fun k => hall (hany.1 k))]
      simp only [oneV, oneFrom, if_neg hxr, insV, e, if_true]
    | false =>
      rw [if_neg (by simp)]
      show x :: oneFrom x.key (insV r l) = _
      rw [oneFrom_ins r x.key l h e]
      by_cases c : r.key = x.key ∨ ∃ y ∈ l, y.key = r.key
      · rw [if_pos c, if_pos (hany.2 c)]; rfl
      · rw [if_neg c, if_neg (fun k => c (hany.1 k))]
        simp only [oneV, insV, e, Bool.false_eq_true, if_false]
theorem sortV_snoc (l : List R) (r : R) : sortV (l ++ [r]) = insV r (sortV l) := by simp [sortV]
/-- The rows that are not quiet, sorted, one of each key: a report built row by row. -/
theorem report_sorted (l : List R) (h : ∀ r ∈ l, quietV r = false → r.kind ≠ 0) : oneV (sortV (l.filter fun r => !quietV r)) = l.foldl addV [] := by
  have main : ∀ (n : Nat) (l : List R), l.length = n → (∀ r ∈ l, quietV r = false → r.kind ≠ 0) → oneV (sortV (l.filter fun r => !quietV r)) = l.foldl addV [] := by
    intro n
    induction n with
    | zero => intro l hl _; rw [List.length_eq_zero_iff.1 hl]; rfl
    | succ n ih =>
      intro l hl h
      have hne : l ≠ [] := fun e => by rw [e] at hl; cases hl
      rw [← List.dropLast_concat_getLast hne] at h ⊢
      generalize hx : l.getLast hne = x at h ⊢
      have hl2 : l.dropLast.length = n := by rw [List.length_dropLast, hl]; omega
      generalize l.dropLast = m at h hl2 ⊢
      rw [List.filter_append, List.foldl_append, ← ih m hl2 (fun r hr => h r (List.mem_append_left _ hr))]
      simp only [List.foldl_cons, List.foldl_nil, addV]
      cases q : quietV x with
      | true => simp [q]
      | false =>
        rw [if_pos ⟨h x (by simp) q, rfl⟩, show [x].filter (fun r => !quietV r) = [x] by simp [q], sortV_snoc, oneV_ins _ _ (asc_sort _)]
  exact main _ l rfl h
/-- Of the first m rows those whose place is kept. -/
def keptL (kp : Nat → Bool) (l : List R) (m : Nat) : List R := ((List.range m).filter kp).map fun j => l.getD j zeroR
theorem keptL_succ (kp : Nat → Bool) (l : List R) (m : Nat) : keptL kp l (m + 1) = keptL kp l m ++ (if kp m = true then [l.getD m zeroR] else []) := by
  unfold keptL
  rw [List.range_succ, List.filter_append, List.map_append]
  congr 1
  cases h : kp m <;> simp [h]
theorem take_next (l : List R) (m : Nat) (h : m < l.length) : l.take (m + 1) = l.take m ++ [l.getD m zeroR] := by
  rw [List.take_add_one, List.getD_eq_getElem?_getD, List.getElem?_eq_getElem h]
  rfl
theorem keptL_all {kp : Nat → Bool} {l : List R} {m : Nat} (hm : m ≤ l.length) (h : ∀ j, j < m → kp j = true) : keptL kp l m = l.take m := by
  induction m with
  | zero => rfl
  | succ m ih => rw [keptL_succ, ih (by omega) (fun j hj => h j (by omega)), h m (by omega), if_pos rfl, ← take_next l m (by omega)]
theorem keptL_le (kp : Nat → Bool) (l : List R) (m : Nat) : (keptL kp l m).length ≤ m := by
  unfold keptL
  rw [List.length_map]
  exact Nat.le_trans (List.length_filter_le _ _) (by simp)
/-- The rows as the loop that strikes some of them leaves them: what is kept at the head, then what was there. -/
def strikeV (kp : Nat → Bool) (l : List R) (m : Nat) : List R := keptL kp l m ++ l.drop (keptL kp l m).length
theorem strikeV_length {kp : Nat → Bool} {l : List R} {m : Nat} (hm : m ≤ l.length) : (strikeV kp l m).length = l.length := by
  have := keptL_le kp l m
  rw [strikeV, List.length_append, List.length_drop]; omega
theorem strikeV_start {kp : Nat → Bool} {l : List R} {k : Nat} (hk : k < l.length) (hall : ∀ j, j < k → kp j = true) (hno : kp k = false) : keptL kp l (k + 1) = l.take k ∧ strikeV kp l (k + 1) = l := by
  have e : keptL kp l (k + 1) = l.take k := by rw [keptL_succ, hno, keptL_all (by omega) hall]; simp
  refine ⟨e, ?_⟩
  rw [strikeV, e, List.length_take, Nat.min_eq_left (by omega), List.take_append_drop]
theorem strikeV_high {kp : Nat → Bool} {l : List R} {m : Nat} (j : Nat) (hj : (keptL kp l m).length ≤ j) : (strikeV kp l m).getD j zeroR = l.getD j zeroR := by
  rw [strikeV, List.getD_eq_getElem?_getD, List.getElem?_append_right hj, List.getElem?_drop, List.getD_eq_getElem?_getD]
  congr 2; omega
theorem strikeV_skip {kp : Nat → Bool} {l : List R} {m : Nat} (h : kp m = false) : keptL kp l (m + 1) = keptL kp l m ∧ strikeV kp l (m + 1) = strikeV kp l m := by
  have e : keptL kp l (m + 1) = keptL kp l m := by rw [keptL_succ, h]; simp
  exact ⟨e, by rw [strikeV, e]; rfl⟩
theorem strikeV_keep {kp : Nat → Bool} {l : List R} {m : Nat} (hm : m < l.length) (h : kp m = true) :
    (keptL kp l (m + 1)).length = (keptL kp l m).length + 1 ∧ strikeV kp l (m + 1) = (strikeV kp l m).set (keptL kp l m).length (l.getD m zeroR) := by
  have e : keptL kp l (m + 1) = keptL kp l m ++ [l.getD m zeroR] := by rw [keptL_succ, h]; simp
  have hle := keptL_le kp l m
  refine ⟨by rw [e]; simp, ?_⟩
  unfold strikeV
  rw [List.set_append_right _ _ (Nat.le_refl _), Nat.sub_self, e, List.append_assoc]
  congr 1
  rw [List.length_append, List.length_singleton, List.drop_eq_getElem_cons (by omega : (keptL kp l m).length < l.length), List.set_cons_zero]
  rfl
theorem strikeV_done (kp : Nat → Bool) (l : List R) (m : Nat) : (strikeV kp l m).take (keptL kp l m).length = keptL kp l m := by
  rw [strikeV, List.take_left]
theorem keptL_filter (f : R → Bool) (l : List R) : keptL (fun j => f (l.getD j zeroR)) l l.length = l.filter f := by
  have : ∀ m, m ≤ l.length → keptL (fun j => f (l.getD j zeroR)) l m = (l.take m).filter f := by
    intro m
    induction m with
    | zero => intro _; rfl
    | succ m ih =>
      intro hm
      rw [keptL_succ, ih (by omega), take_next l m (by omega), List.filter_append]
      congr 1
      generalize l.getD m zeroR = x
      cases h : f x <;> simp [h]
  rw [this _ (Nat.le_refl _), List.take_length]
def lastKey (k : ByteArray) : List R → ByteArray
  | [] => k
  | x :: l => lastKey x.key l
theorem lastKey_snoc (k : ByteArray) (l : List R) (x : R) : lastKey k (l ++ [x]) = x.key := by
  induction l generalizing k with
  | nil => rfl
  | cons y l ih => exact ih y.key
theorem oneFrom_snoc (k : ByteArray) (l : List R) (x : R) : oneFrom k (l ++ [x]) = oneFrom k l ++ (if x.key = lastKey k l then [] else [x]) := by
  induction l generalizing k with
  | nil =>
    show (if x.key = k then oneFrom k [] else x :: oneFrom x.key []) = [] ++ (if x.key = k then [] else [x])
    by_cases c : x.key = k
    · rw [if_pos c, if_pos c]; rfl
    · rw [if_neg c, if_neg c]; rfl
  | cons y l ih =>
    simp only [List.cons_append, oneFrom, lastKey]
    by_cases e : y.key = k
    · rw [if_pos e, if_pos e, ih, ← e]
      congr 1
    · rw [if_neg e, if_neg e, ih]; rfl
/-- Is the row at place j another key's than the one ahead of it? -/
def newKey (l : List R) (j : Nat) : Bool := decide (j = 0) || !decide ((l.getD j zeroR).key = (l.getD (j - 1) zeroR).key)
theorem keptL_one (l : List R) : keptL (newKey l) l l.length = oneV l := by
  have : ∀ m, m ≤ l.length → keptL (newKey l) l m = oneV (l.take m) := by
    intro m
    induction m with
    | zero => intro _; rfl
    | succ m ih =>
      intro hm
      rw [keptL_succ, ih (by omega), take_next l m (by omega)]
      cases m with
      | zero => simp [newKey, oneV, oneFrom]
      | succ m =>
        obtain ⟨x, t, e⟩ : ∃ x t, l.take (m + 1) = x :: t := by
          cases hl : l with
          | nil => rw [hl] at hm; simp at hm
          | cons x t => exact ⟨x, _, List.take_succ_cons⟩
        have hlast : lastKey x.key t = (l.getD m zeroR).key := by
          have e2 := take_next l m (by omega)
          rw [e] at e2
          have : lastKey x.key (x :: t) = (l.getD m zeroR).key := by rw [e2]; exact lastKey_snoc _ _ _
          exact this
        rw [e]
        show oneV (x :: t) ++ _ = x :: oneFrom x.key (t ++ [_])
        rw [oneFrom_snoc, hlast]
        show x :: (oneFrom x.key t ++ _) = x :: (oneFrom x.key t ++ _)
        congr 2
        by_cases c : (l.getD (m + 1) zeroR).key = (l.getD m zeroR).key
        · simp only [newKey, Nat.add_sub_cancel, c, if_true]; simp
        · simp only [newKey, Nat.add_sub_cancel, c, if_false]; simp
  rw [this _ (Nat.le_refl _), List.take_length]
end Go.Proofs.YtmglidfnolmcaaaDoor
/-
  Two rows compared by their keys, as the program hands it to the library.
-/
namespace Go.Proofs.YtmglidfnolmcaaaDoor
open Go.RowKit M
set_option linter.unusedVariables false
set_option linter.unusedSimpArgs false
/-- Which of two strings comes first: -1, 0 or 1. -/
def cmpV (a b : ByteArray) : Int := Lib.compareBytes a.data.toList b.data.toList
theorem compare_less : ∀ (a b : List UInt8), decide (Lib.compareBytes a b < 0) = Go.Op.bytesLess a b
  | [], [] => rfl
  | [], _ :: _ => rfl
  | _ :: _, [] => rfl
  | a :: x, b :: y => by
    have ih := compare_less x y
    simp only [Lib.compareBytes, Go.Op.bytesLess]
    by_cases h : a < b
    · simp [h]
    · by_cases h2 : b < a
      · have hne : (a == b) = false := by rw [beq_eq_false_iff_ne]; intro e; subst e; exact h h2
        simp [h, h2, hne]
      · have e : a = b := by
          have a1 : ¬ a.toNat < b.toNat := h
          have a2 : ¬ b.toNat < a.toNat := h2
          exact UInt8.toNat_inj.1 (by omega)
        subst e
        simp [h, ih]
theorem cmpV_less (a b : ByteArray) : decide (cmpV a b < 0) = strLt a b := by
  unfold cmpV strLt
  rw [compare_less, Lib.toList_data, Lib.toList_data]
set_option maxRecDepth 100000 in
theorem iCompareString (w : World) (a b : ByteArray) : Calls Tryd.prog 103 #[.string a, .string b] w (Same w (.int .i64 (cmpV a b))) := by
  go_enter Tryd.func103, Tryd.ntmps103
  go_wp2
  rw [run_callFunc_extern Tryd.func112 (by kernel_rfl) (by kernel_rfl) (by kernel_rfl) (e := Extern.BytealgCompare.compare) (by kernel_rfl), Lib.run_compareString]
  simp only [Result.andThen]
  rw [Oper.upon_value]
  have HC := Lib.hid (show Ending.returned (.int .i64 (Lib.compareBytes a.data.toList b.data.toList)) = .returned (.int .i64 (cmpV a b)) from rfl)
  generalize cmpV a b = c at *
  generalize Lib.compareBytes a.data.toList b.data.toList = d at *
  go_wp2
  go_ret
  exact ⟨HC.out, rfl⟩
set_option maxRecDepth 100000 in
theorem iCompare (w : World) (a b : ByteArray) : Calls Tryd.prog 89 #[.string a, .string b] w (Same w (.int .i64 (cmpV a b))) := by
  have HC := fun W => Lib.hid (iCompareString W a b)
  generalize cmpV a b = c at *
  go_enter Tryd.func89, Tryd.ntmps89
  go_wp2_with fail
  refine (HC _).out.mono ?_
  rintro e w2 ⟨rfl, rfl⟩
  go_wp2_with fail
  go_ret
  exact ⟨rfl, rfl⟩
set_option maxRecDepth 100000 in
set_option maxHeartbeats 4000000 in
theorem iCmp_any (w : World) (r s : R) : Calls Tryd.prog 88 #[r.v, s.v] w (Gives (.int .i64 (cmpV r.key s.key)) w) := by
  obtain ⟨key, kind, sum, st, last, n, mn, mx, total, dropped⟩ := r
  obtain ⟨key', kind', sum', st', last', n', mn', mx', total', dropped'⟩ := s
  have HC := fun W => Lib.hid (iCompare W key key')
  unfold R.v
  simp only
  generalize cmpV key key' = c at *
  go_enter Tryd.func88, Tryd.ntmps88
  go_wp2_with fail
  refine (HC _).out.mono ?_
  rintro e w2 ⟨rfl, rfl⟩
  go_wp2_with fail
  go_ret
  exact ⟨rfl, ((Below.refl _ _).alloc (Nat.le_refl _) _).alloc (by simp [go_sem]) _⟩
set_option maxRecDepth 100000 in
set_option maxHeartbeats 4000000 in
theorem iEq_any (w : World) (r s : R) : Calls Tryd.prog 91 #[r.v, s.v] w (Gives (.bool (decide (r.key = s.key))) w) := by
  obtain ⟨key, kind, sum, st, last, n, mn, mx, total, dropped⟩ := r
  obtain ⟨key', kind', sum', st', last', n', mn', mx', total', dropped'⟩ := s
  unfold R.v
  simp only
  by_cases h : key = key'
  · subst h
    have hd : decide (key = key) = true := by simp
    rw [hd]
    have hs := txt_self key
    go_enter Tryd.func91, Tryd.ntmps91
    go_wp2_with fail
    go_ret
    exact ⟨rfl, ((Below.refl _ _).alloc (Nat.le_refl _) _).alloc (by simp [go_sem]) _⟩
  · have hd : decide (key = key') = false := by simp [h]
    rw [hd]
    have hs := txt_ne h
    clear h hd
    go_enter Tryd.func91, Tryd.ntmps91
    go_wp2_with fail
    go_ret
    exact ⟨rfl, ((Below.refl _ _).alloc (Nat.le_refl _) _).alloc (by simp [go_sem]) _⟩
end Go.Proofs.YtmglidfnolmcaaaDoor
/-
  Chapters 8 and 9 in plain words, once more: what clearing, recording and flushing leave as it was, and what they make.
-/
namespace Go.Proofs.YtmglidfnolmcaaaDoor
open Go.RowKit M
set_option linter.unusedVariables false
theorem getD_set_ne {l : List Int} {i j : Nat} (x : Int) (h : i ≠ j) : (l.set i x).getD j 0 = l.getD j 0 := by simp [List.getD_eq_getElem?_getD, List.getElem?_set_ne h]
theorem getD_set_eq {l : List Int} {i : Nat} (x : Int) (h : i < l.length) : (l.set i x).getD i 0 = x := by simp [List.getD_eq_getElem?_getD, h]
theorem isW_modW (x : Int) : isW (modW x) = true := isW_iff.2 (by unfold modW; omega)
theorem isW_small {x : Int} (h : 0 ≤ x ∧ x ≤ 4294967295) : isW x = true := isW_iff.2 (by omega)
theorem isW_gauge (a v : Int) : isW (gaugeV a v) = true := isW_iff.2 (by unfold gaugeV; split <;> omega)
theorem slotRaw_congr {x y : List Int} {b s : Int} (hx : x.length = 71) (hy : y.length = 71) (hb : 0 ≤ b ∧ b ≤ 1) (hs : 0 ≤ s ∧ s ≤ 3) (h : ∀ j : Nat, j < 8 → x.getD ((7 + b * 32 + s * 8).toNat + j) 0 = y.getD ((7 + b * 32 + s * 8).toNat + j) 0) : slotRaw x b s = slotRaw y b s := by
  refine list_getD_ext (by rw [slotRaw_len hx hb hs, slotRaw_len hy hb hs]) fun j hj => ?_
  rw [slotRaw_len hx hb hs] at hj
  rw [slotRaw_at hx hb hs j hj, slotRaw_at hy hb hs j hj, h j hj]
theorem rowInV_congr {x y : List Int} {b s : Int} (hx : okC x = true) (hy : okC y = true) (hb : 0 ≤ b ∧ b ≤ 1) (hs : 0 ≤ s ∧ s ≤ 3) (hk : x.getD (3 + s).toNat 0 = y.getD (3 + s).toNat 0)
    (h : ∀ j : Nat, j < 8 → x.getD ((7 + b * 32 + s * 8).toNat + j) 0 = y.getD ((7 + b * 32 + s * 8).toNat + j) 0) : rowInV x b s = rowInV y b s := by
  unfold rowInV
  rw [if_pos ⟨hx, bufOk_iff.2 hb, slotOk_iff.2 hs⟩, if_pos ⟨hy, bufOk_iff.2 hb, slotOk_iff.2 hs⟩, slotRaw_congr (okC_len hx) (okC_len hy) hb hs h]
  unfold cellK; rw [hk]
theorem clearT_ok {a : List Int} (b : Int) (h : okC a = true) (n : Nat) : okC (clearT a b n) = true := by
  induction n with
  | zero => exact h
  | succ n ih => rw [clearT_succ]; exact okC_set ih _ 0 rfl
theorem clearV_ok {a : List Int} {b : Int} (h : okC a = true) (hb : 0 ≤ b ∧ b ≤ 1) : okC (clearV a b) = true := by rw [clearV_yes h hb]; exact clearT_ok b h 32
theorem clearV_get {a : List Int} {b : Int} (h : okC a = true) (hb : 0 ≤ b ∧ b ≤ 1) (j : Nat) : (clearV a b).getD j 0 = if 7 + b * 32 ≤ (j : Int) ∧ (j : Int) < 39 + b * 32 then 0 else a.getD j 0 := by
  rw [clearV_yes h hb, clearT_get hb 32 (Nat.le_refl _) j]
  by_cases hin : 7 + b * 32 ≤ (j : Int) ∧ (j : Int) < 39 + b * 32
  · rw [if_pos hin, if_pos (by omega)]
  · rw [if_neg hin, if_neg (by omega)]
theorem bufClear_of {a : List Int} {b : Int} (h : okC a = true) (hb : 0 ≤ b ∧ b ≤ 1) (hz : ∀ j : Nat, 7 + b * 32 ≤ (j : Int) → (j : Int) < 39 + b * 32 → a.getD j 0 = 0) : bufClearV a b = true := by
  unfold bufClearV
  rw [h, bufOk_iff.2 hb]
  simp only [Bool.true_and, List.all_eq_true, List.mem_range, decide_eq_true_eq]
  intro i hi
  exact hz _ (by omega) (by omega)
theorem bufClear_clear {a : List Int} {b : Int} (h : okC a = true) (hb : 0 ≤ b ∧ b ≤ 1) : bufClearV (clearV a b) b = true :=
  bufClear_of (clearV_ok h hb) hb fun j h0 h1 => by rw [clearV_get h hb, if_pos ⟨h0, h1⟩]
/-- A slot whose cells are all zero has a quiet row, or none. -/
theorem row_quiet (tag : Int) {raw : List Int} (hz : ∀ j : Nat, raw.getD j 0 = 0) : (rowFromV tag raw).kind = 0 ∨ quietV (rowFromV tag raw) = true := by
  unfold rowFromV
  split
  · rename_i key kind hu
    split
    · right
      unfold kindRow
      split
      · simp only [countRow, quietV, sumT, hz]; decide
      · split
        · simp only [gaugeRow, quietV, hz]; decide
        · have e : ringV { zeroR with key := key, kind := 3 } raw 3 = { zeroR with key := key, kind := 3 } := by
            simp only [ringV, hz]; rfl
          unfold timerRow; rw [e, hz]; rfl
    · exact Or.inl rfl
  · exact Or.inl rfl
theorem addV_quiet {l : List R} {r : R} (h : r.kind = 0 ∨ quietV r = true) : addV l r = l := addV_no fun x => by
  rcases h with h | h
  · exact x.1 h
  · rw [x.2] at h; cases h
theorem reportT_none {a : List Int} {b : Int} (h : ∀ s : Nat, s < 4 → (rowInV a b s).kind = 0 ∨ quietV (rowInV a b s) = true) (n : Nat) (hn : n ≤ 4) : reportT a b n = [] := by
  induction n with
  | zero => rfl
  | succ n ih => rw [reportT_succ, ih (by omega), addV_quiet (h n (by omega))]
theorem reportT_congr {x y : List Int} {b c : Int} (h : ∀ s : Nat, s < 4 → rowInV x b s = rowInV y c s) (n : Nat) (hn : n ≤ 4) : reportT x b n = reportT y c n := by
  induction n with
  | zero => rfl
  | succ n ih => rw [reportT_succ, reportT_succ, ih (by omega), h n (by omega)]
theorem report_clear {a : List Int} {b : Int} (h : okC a = true) (hb : 0 ≤ b ∧ b ≤ 1) : reportInV (clearV a b) b = [] := by
  unfold reportInV
  rw [if_pos ⟨clearV_ok h hb, bufOk_iff.2 hb⟩]
  refine reportT_none (fun s hs => ?_) 4 (Nat.le_refl _)
  unfold rowInV
  rw [if_pos ⟨clearV_ok h hb, bufOk_iff.2 hb, slotOk_iff.2 (by omega)⟩]
  refine row_quiet _ fun j => ?_
  have hl := okC_len (clearV_ok h hb)
  by_cases hj : j < 8
  · rw [slotRaw_at hl hb (by omega) j hj, clearV_get h hb, if_pos (by omega)]
  · rw [List.getD_eq_getElem?_getD, List.getElem?_eq_none (by rw [slotRaw_len hl hb (by omega)]; omega)]; rfl
theorem report_other {a : List Int} {b : Int} (h : okC a = true) (hb : 0 ≤ b ∧ b ≤ 1) : reportInV (clearV a b) (1 - b) = reportInV a (1 - b) := by
  have hb' : 0 ≤ 1 - b ∧ 1 - b ≤ 1 := by omega
  unfold reportInV
  rw [if_pos ⟨clearV_ok h hb, bufOk_iff.2 hb'⟩, if_pos ⟨h, bufOk_iff.2 hb'⟩]
  refine reportT_congr (fun s hs => ?_) 4 (Nat.le_refl _)
  refine rowInV_congr (clearV_ok h hb) h hb' (by omega) ?_ fun j hj => ?_
  · rw [clearV_get h hb, if_neg (by omega)]
  · rw [clearV_get h hb, if_neg (by omega)]
theorem rowIn_raw {a : List Int} {b : Int} {s : Nat} (h : okC a = true) (hb : 0 ≤ b ∧ b ≤ 1) (hs : s < 4) : rowInV a b s = rowFromV (cellK a s) (slotRaw a b s) := if_pos ⟨h, bufOk_iff.2 hb, slotOk_iff.2 (by omega)⟩
theorem clear_head {a : List Int} {b : Int} (h : okC a = true) (hb : 0 ≤ b ∧ b ≤ 1) : (clearV a b).take 7 = a.take 7 := by
  have hl := okC_len (clearV_ok h hb)
  have hl2 := okC_len h
  refine list_getD_ext (by simp [hl, hl2]) fun j hj => ?_
  have hj7 : j < 7 := by simp at hj; omega
  have := clearV_get h hb j
  rw [if_neg (by omega)] at this
  simpa [List.getD_eq_getElem?_getD, hj7] using this
/-- The facts where the cells are not valid, or the buffer is none. -/
theorem drained_no {a : List Int} {b : Int} (h : ¬ (okC a = true ∧ (0 ≤ b ∧ b ≤ 1))) : reportInV a b = [] ∧ clearV a b = a ∧ bufClearV a b = false := by
  have h' : ¬ (okC a = true ∧ bufOk b = true) := fun x => h ⟨x.1, bufOk_iff.1 x.2⟩
  refine ⟨if_neg h', if_neg h', ?_⟩
  unfold bufClearV
  cases h1 : okC a with
  | false => rfl
  | true => cases h2 : bufOk b with
    | false => rfl
    | true => exact absurd ⟨h1, h2⟩ h'
/-- Recording touches only cells of its own slot, and leaves words. -/
theorem putCells_ok {a : List Int} {b s kind w v : Int} (h : okC a = true) (hv : 0 ≤ v ∧ v ≤ 65535) : okC (putCells a b s kind w v) = true := by
  unfold putCells
  split
  · exact okC_set h _ _ (isW_modW _)
  · split
    · unfold putGauge; simp only
      have h1 := okC_set h (7 + b * 32 + s * 8 + 2).toNat _ (isW_modW (a.getD (7 + b * 32 + s * 8 + 2).toNat 0 + 1))
      split
      · exact okC_set h1 _ _ (isW_gauge _ _)
      · exact h1
    · unfold putTimer; simp only
      have h1 := okC_set h (7 + b * 32 + s * 8 + 4).toNat _ (isW_modW (a.getD (7 + b * 32 + s * 8 + 4).toNat 0 + 1))
      split
      · exact h1
      · exact okC_set h1 _ _ (isW_small (by omega))
theorem putCells_get {a : List Int} {b s kind w v : Int} (h : okC a = true) (hb : 0 ≤ b ∧ b ≤ 1) (hs : 0 ≤ s ∧ s ≤ 3) (hw : 0 ≤ w ∧ w ≤ 2) (j : Nat) (hj : ¬ (7 + b * 32 + s * 8 ≤ (j : Int) ∧ (j : Int) < 15 + b * 32 + s * 8)) : (putCells a b s kind w v).getD j 0 = a.getD j 0 := by
  have h4 := okC_at h (7 + b * 32 + s * 8 + 4).toNat (by omega)
  unfold putCells
  split
  · unfold putCount; rw [getD_set_ne _ (by omega)]
  · split
    · unfold putGauge; simp only
      split
      · rw [getD_set_ne _ (by omega), getD_set_ne _ (by omega)]
      · rw [getD_set_ne _ (by omega)]
    · unfold putTimer; simp only
      split
      · rw [getD_set_ne _ (by omega)]
      · rw [getD_set_ne _ (by omega), getD_set_ne _ (by omega)]
theorem recD_done {a : List Int} {w : Int} {key : ByteArray} {v : Int} : (recD a w key v = 0 ∨ recD a w key v = 5) ↔ (recArgs a w key v = true ∧ 0 ≤ fkS a key) := by
  unfold recD
  constructor
  · intro h
    split at h
    · rename_i hr
      split at h
      · rename_i h0; exact ⟨hr, h0⟩
      · omega
    · omega
  · rintro ⟨hr, h0⟩
    rw [if_pos hr, if_pos h0]; split <;> omega
theorem epoch_bit {a : List Int} (h : okC a = true) : 0 ≤ a.getD 0 0 % 2 ∧ a.getD 0 0 % 2 ≤ 1 := by omega
/-- What a record that is taken leaves: valid cells, the epoch, all keys, every other slot's row. -/
theorem rec_done {a : List Int} {w : Int} {key : ByteArray} {v : Int} (h : recArgs a w key v = true) (h0 : 0 ≤ fkS a key) :
    okC a = true ∧ okC (recC a w key v) = true ∧ (recC a w key v).getD 0 0 = a.getD 0 0 ∧ ∀ s : Nat, s < 4 → (s : Int) ≠ fkS a key → rowInV (recC a w key v) (a.getD 0 0 % 2) s = rowInV a (a.getD 0 0 % 2) s := by
  obtain ⟨hok, hw, hk, hv⟩ := recArgs_iff.1 h
  obtain ⟨f3, _, _⟩ := fk_found h0
  have hb := epoch_bit hok
  have e : recC a w key v = putCells a (a.getD 0 0 % 2) (fkS a key) (fkK a key) w v := if_pos ⟨h, h0⟩
  rw [e]
  refine ⟨hok, putCells_ok hok hv, putCells_get hok hb ⟨h0, f3⟩ hw 0 (by omega), fun s hs hne => ?_⟩
  refine rowInV_congr (putCells_ok hok hv) hok hb (by omega) (putCells_get hok hb ⟨h0, f3⟩ hw _ (by omega)) fun j hj => ?_
  exact putCells_get hok hb ⟨h0, f3⟩ hw _ (by omega)
theorem flushC_yes {a : List Int} (h : okC a = true) : flushC a = (clearV a (a.getD 0 0 % 2)).set 0 (modW (a.getD 0 0 + 1)) := if_pos h
/-- What a flush leaves: valid cells, the window's buffer empty, the epoch one more. -/
theorem flush_done {a : List Int} (h : okC a = true) : (flushC a).length = 71 ∧ flushR a = reportInV a (a.getD 0 0 % 2) ∧ bufClearV (flushC a) (a.getD 0 0 % 2) = true ∧ (flushC a).getD 0 0 = modW (a.getD 0 0 + 1) := by
  have hb := epoch_bit h
  have hc := clearV_ok h hb
  have hl := okC_len hc
  refine ⟨by rw [flushC_len, okC_len h], if_pos h, ?_, ?_⟩
  · rw [flushC_yes h]
    refine bufClear_of (okC_set hc 0 _ (isW_modW _)) hb fun j h0 h1 => ?_
    rw [getD_set_ne _ (by omega), clearV_get h hb, if_pos ⟨h0, h1⟩]
  · rw [flushC_yes h, getD_set_eq _ (by omega)]
end Go.Proofs.YtmglidfnolmcaaaDoor
/-
  Chapter 6, the program's functions: each answers what the plain words say. They turn nothing that was there.
-/
namespace Go.Proofs.YtmglidfnolmcaaaDoor
open Go.RowKit M
set_option linter.unusedVariables false
theorem cellK_below {w wr : World} {b off cap : Nat} {zs : List Int} {B : Nat} (hz : Ints w (.slice (some ⟨b, off, none⟩) B cap) zs) (hc : okC zs = true) (hb : Below w.heap.size w wr) {s : Int} (h0 : 0 ≤ s) (h3 : s ≤ 3) : wr.cell? ⟨b, off + (3 + s).toNat, none⟩ = some (.int .i64 (cellK zs s)) := by
  obtain ⟨b', off', cap', e, _, _, _, h4⟩ := hz.below hb
  injection e with e1 _ _
  injection e1 with e1
  injection e1 with e1 e2 _
  subst e1; subst e2
  exact cellK_at h4 (okC_len hc) h0 h3
theorem cellK_word {zs : List Int} (hc : okC zs = true) {s : Int} (h0 : 0 ≤ s) (h3 : s ≤ 3) : 0 ≤ cellK zs s ∧ cellK zs s ≤ 281474976710655 := okC_at hc _ (by omega)
theorem ownI_mono {w : World} {b b' : Nat} {v : Value} {zs : List Int} (h : OwnI w b' v zs) (hb : b ≤ b') : OwnI w b v zs := by
  obtain ⟨⟨h1, h2⟩, h3⟩ := h
  refine ⟨⟨h1, ?_⟩, h3⟩
  rcases h2 with h | ⟨g, cap, cur, e, hg, hr⟩
  · exact Or.inl h
  · exact Or.inr ⟨g, cap, cur, e, Nat.le_trans hb hg, hr⟩
theorem ret_int1 {a b : Int} (h : a = b) : Ending.returned (.int .i64 a) = .returned (.int .i64 b) := by rw [h]
set_option maxRecDepth 100000 in
set_option maxHeartbeats 1600000 in
theorem iEnd_any (w : World) (v : Value) (zs : List Int) (key : ByteArray) (hz : Ints w v zs) (hc : okC zs = true) (hk : keyOkV key = true) :
    Calls Tryd.prog 51 #[v, .string key] w (Gives (.int .i64 (slotE (findV zs key))) w) := by
  have hks : key.size ≤ maxLen := by have := (keyOkV_iff.1 hk).1; unfold maxLen; omega
  have hl := okC_len hc
  have HZ := Lib.hid hz
  have HC := Lib.hid hc
  have HK := Lib.hid hk
  have HKN := Lib.hid (key_ne hk)
  obtain ⟨b, off, cap, rfl, hcl, hcm, _, _⟩ := hz
  rw [hl] at *
  clear hc hk
  go_enter Tryd.func51, Tryd.ntmps51
  go_wp2
  go_loopw [10] (fun x wr => ∃ n : Nat, n ≤ 4 ∧ x = .int .i64 n ∧ (∀ m : Nat, m < n → stepF zs key m = none) ∧ Below w.heap.size w wr) (fun x _ => 4 - (intOf x).toNat)
  case atStart => exact ⟨0, Nat.zero_le _, rfl, fun m hm => absurd hm (Nat.not_lt_zero _), Below.refl _ _⟩
  case round =>
    obtain ⟨n, hn, rfl, hd, hb⟩ := hrel
    have HD := Lib.hid hd
    have HB := Lib.hid hb
    clear hd hb
    by_cases hlt : n < 4
    · obtain ⟨p0, p3⟩ := probe_bd HK.out hlt
      have HP := Lib.hid (iProbe_same wr key n hks)
      have HKC := Lib.hid (iKey_any (probeV key n) wr)
      rw [keyV_yes ⟨p0, p3⟩] at HKC
      have hcr := cellK_below HZ.out HC.out HB.out p0 p3
      obtain ⟨x0, x1⟩ := cellK_word HC.out p0 p3
      have hp71 : 3 + probeV key n < 71 := by omega
      have HU := Lib.hid (iUntag_any wr (cellK zs (probeV key n)) (by omega) (by omega))
      have HS := Lib.hid (show stepF zs key n = if cellK zs (probeV key n) = 0 then some (-1, 0, probeV key n) else match untagV (cellK zs (probeV key n)) with | some (k, kd) => if k = key then some (probeV key n, kd, -1) else none | none => none from rfl)
      by_cases hx : cellK zs (probeV key n) = 0
      · have HF := Lib.hid (congrArg slotE (findV_at hlt HD.out (HS.out.trans (if_pos hx))))
        rw [hx] at hcr HU
        rw [untagV_zero, untT_none] at HU
        rw [slotE_free] at HF
        have hkn := txt_ne (Ne.symm HKN.out)
        have hkn2 := txt_full HKN.out
        clear hx HS x0 x1
        generalize probeV key n = p at *
        go_wp2_with (first | (go_at_call 74; refine HP.out.mono ?_; rintro e w' ⟨rfl, rfl⟩) | (go_at_call 52; refine HKC.out.mono ?_; rintro e w' ⟨rfl, rfl⟩) | (go_at_call 53; refine HU.out.mono ?_; rintro e w2 ⟨rfl, hb2⟩))
        go_ret
        exact ⟨ret_int1 HF.out.symm, HB.out.trans (hb2.mono HB.out.size)⟩
      · have hxne : (cellK zs (probeV key n) == 0) = false := by rw [beq_eq_false_iff_ne]; exact hx
        have HS2 := Lib.hid (HS.out.trans (if_neg hx))
        clear HS hx x0 x1
        cases hu : untagV (cellK zs (probeV key n)) with
        | none =>
          rw [hu] at HS2
          rw [hu, untT_none] at HU
          have HN := Lib.hid (none_next HD.out HS2.out)
          have hkn := txt_ne (Ne.symm HKN.out)
          have hkn2 := txt_full HKN.out
          clear hu HS2
          generalize cellK zs (probeV key n) = x at *
          generalize probeV key n = p at *
          go_wp2_with (first | (go_at_call 74; refine HP.out.mono ?_; rintro e w' ⟨rfl, rfl⟩) | (go_at_call 52; refine HKC.out.mono ?_; rintro e w' ⟨rfl, rfl⟩) | (go_at_call 53; refine HU.out.mono ?_; rintro e w2 ⟨rfl, hb2⟩))
          go_roundw
          case rel => exact ⟨n + 1, by omega, by go_num, HN.out, HB.out.trans (hb2.mono HB.out.size)⟩
          case measure => simp [intOf]; omega
        | some u =>
          obtain ⟨k, kd⟩ := u
          rw [hu] at HS2
          rw [hu, untT_some] at HU
          by_cases he : k = key
          · have HF := Lib.hid ((congrArg slotE (findV_at hlt HD.out (HS2.out.trans (if_pos he)))).trans (slotE_found p0 kd (-1)))
            subst he
            clear hu HS2
            generalize cellK zs (probeV k n) = x at *
            generalize probeV k n = p at *
            go_wp2_with (first | (go_at_call 74; refine HP.out.mono ?_; rintro e w' ⟨rfl, rfl⟩) | (go_at_call 52; refine HKC.out.mono ?_; rintro e w' ⟨rfl, rfl⟩) | (go_at_call 53; refine HU.out.mono ?_; rintro e w2 ⟨rfl, hb2⟩))
            go_ret
            exact ⟨ret_int1 HF.out.symm, HB.out.trans (hb2.mono HB.out.size)⟩
          · have HN := Lib.hid (none_next HD.out (HS2.out.trans (if_neg he)))
            have hkn := txt_ne he
            clear hu HS2 he
            generalize cellK zs (probeV key n) = x at *
            generalize probeV key n = p at *
            go_wp2_with (first | (go_at_call 74; refine HP.out.mono ?_; rintro e w' ⟨rfl, rfl⟩) | (go_at_call 52; refine HKC.out.mono ?_; rintro e w' ⟨rfl, rfl⟩) | (go_at_call 53; refine HU.out.mono ?_; rintro e w2 ⟨rfl, hb2⟩))
            go_roundw
            case rel => exact ⟨n + 1, by omega, by go_num, HN.out, HB.out.trans (hb2.mono HB.out.size)⟩
            case measure => simp [intOf]; omega
    · have hge : decide ((n : Int) < 4) = false := by simp; omega
      have HF := Lib.hid (congrArg slotE (findV_none (fun m hm => HD.out m (by omega))))
      go_wp2
      go_ret
      exact ⟨ret_int1 HF.out.symm, HB.out⟩
set_option maxRecDepth 100000 in
set_option maxHeartbeats 800000 in
theorem iFindKey_any (w : World) (v : Value) (zs : List Int) (key : ByteArray) (hz : Ints w v zs) (hs : key.size ≤ maxLen) :
    Calls Tryd.prog 27 #[v, .string key] w (Gives (.tuple #[.int .i64 (fkS zs key), .int .i64 (fkK zs key)]) w) := by
  have HC := Lib.hid (iOk_any w v zs hz)
  have HO := Lib.hid (iKeyOk_same w key hs)
  have HZ := Lib.hid hz
  cases hc : okC zs with
  | false =>
    obtain ⟨b, off, cap, rfl, _, _, _, _⟩ := hz
    have E1 := Lib.hid (show fkS zs key = -1 from if_neg (by rw [hc]; simp))
    have E2 := Lib.hid (show fkK zs key = 0 from if_neg (by rw [hc]; simp))
    rw [hc] at HC
    clear hc
    go_enter Tryd.func27, Tryd.ntmps27
    go_wp2_with (go_at_call 22; refine HC.out.mono ?_; rintro e w' ⟨rfl, rfl⟩)
    go_ret2
    exact ⟨ret_ii E1.out.symm E2.out.symm, Below.refl _ _⟩
  | true =>
    cases hk : keyOkV key with
    | false =>
      obtain ⟨b, off, cap, rfl, _, _, _, _⟩ := hz
      have E1 := Lib.hid (show fkS zs key = -1 from if_neg (by rw [hk]; simp))
      have E2 := Lib.hid (show fkK zs key = 0 from if_neg (by rw [hk]; simp))
      rw [hc] at HC
      rw [hk] at HO
      clear hc hk
      go_enter Tryd.func27, Tryd.ntmps27
      go_wp2_with (first | (go_at_call 22; refine HC.out.mono ?_; rintro e w' ⟨rfl, rfl⟩) | (go_at_call 24; refine HO.out.mono ?_; rintro e w' ⟨rfl, rfl⟩))
      go_ret2
      exact ⟨ret_ii E1.out.symm E2.out.symm, Below.refl _ _⟩
    | true =>
      have E1 := Lib.hid (show fkS zs key = (findV zs key).1 from if_pos ⟨hc, hk⟩)
      have E2 := Lib.hid (show fkK zs key = (findV zs key).2.1 from if_pos ⟨hc, hk⟩)
      have HF := Lib.hid (iEnd_any w _ zs key hz hc hk)
      have hl := okC_len hc
      have HEN := Lib.hid (findV_ends zs hk)
      have HCC := Lib.hid hc
      rw [hc] at HC
      rw [hk] at HO
      obtain ⟨b, off, cap, rfl, _, _, _, _⟩ := hz
      rw [hl] at *
      clear hc hk
      rcases HEN.out with hr | ⟨p, p0, p3, ⟨hr, hx⟩ | ⟨kd, hr, hx, hu⟩⟩
      · rw [hr] at E1 E2 HF
        rw [slotE_free] at HF
        clear hr HEN
        go_enter Tryd.func27, Tryd.ntmps27
        go_wp2_with (first | (go_at_call 22; refine HC.out.mono ?_; rintro e w' ⟨rfl, rfl⟩) | (go_at_call 24; refine HO.out.mono ?_; rintro e w' ⟨rfl, rfl⟩) | (go_at_call 51; refine HF.out.mono ?_; rintro e w2 ⟨rfl, hb⟩))
        go_ret2
        exact ⟨ret_ii E1.out.symm E2.out.symm, hb⟩
      · have HCR := fun W (hb : Below w.heap.size w W) => cellK_below HZ.out HCC.out hb p0 p3
        rw [hr] at E1 E2 HF
        rw [slotE_free] at HF
        rw [hx] at HCR
        have HKC := fun W => Lib.hid (iKey_any p W)
        rw [keyV_yes ⟨p0, p3⟩] at HKC
        have hp71 : 3 + p < 71 := by omega
        have hpn : decide (p < 0) = false := by rw [decide_eq_false]; omega
        have HCR := Lib.hid HCR
        clear hr HEN hx
        go_enter Tryd.func27, Tryd.ntmps27
        go_wp2_with (first | (go_at_call 22; refine HC.out.mono ?_; rintro e w' ⟨rfl, rfl⟩) | (go_at_call 24; refine HO.out.mono ?_; rintro e w' ⟨rfl, rfl⟩) | (go_at_call 51; refine HF.out.mono ?_; rintro e w2 ⟨rfl, hb⟩; have hcr := HCR.out w2 hb) | (go_at_call 52; refine (HKC _).out.mono ?_; rintro e w' ⟨rfl, rfl⟩))
        go_ret2
        exact ⟨ret_ii E1.out.symm E2.out.symm, hb⟩
      · have HCR := Lib.hid (fun W (hb : Below w.heap.size w W) => cellK_below HZ.out HCC.out hb p0 p3)
        rw [hr] at E1 E2 HF
        rw [slotE_found p0] at HF
        obtain ⟨x0, x1⟩ := cellK_word HCC.out p0 p3
        have HU := fun W => Lib.hid (iUntag_any W (cellK zs p) (by omega) (by omega))
        rw [hu, untT_some] at HU
        have HKC := fun W => Lib.hid (iKey_any p W)
        rw [keyV_yes ⟨p0, p3⟩] at HKC
        have hp71 : 3 + p < 71 := by omega
        have hpn : decide (p < 0) = false := by rw [decide_eq_false]; omega
        have hxne : (cellK zs p == 0) = false := by rw [beq_eq_false_iff_ne]; exact hx
        clear hr HEN hx hu x0 x1
        generalize cellK zs p = x at *
        go_enter Tryd.func27, Tryd.ntmps27
        go_wp2_with (first | (go_at_call 22; refine HC.out.mono ?_; rintro e w' ⟨rfl, rfl⟩) | (go_at_call 24; refine HO.out.mono ?_; rintro e w' ⟨rfl, rfl⟩) | (go_at_call 51; refine HF.out.mono ?_; rintro e w2 ⟨rfl, hb⟩; have hcr := HCR.out w2 hb) | (go_at_call 52; refine (HKC _).out.mono ?_; rintro e w' ⟨rfl, rfl⟩) | (go_at_call 53; refine (HU _).out.mono ?_; rintro e w3 ⟨rfl, hb3⟩))
        go_ret2
        exact ⟨ret_ii E1.out.symm E2.out.symm, hb.trans (hb3.mono hb.size)⟩
/-- What registering comes to where the way ends at a free slot. -/
theorem reg_free {zs : List Int} {key : ByteArray} {k p : Int} (hr : regOk zs key k = true) (h0 : 0 ≤ p) (h3 : p ≤ 3) (hf : findV zs key = (-1, 0, p)) (hx : cellK zs p = 0) :
    casC zs (3 + p) 0 (tagV key k) = regC zs key k ∧ casR zs (3 + p) 0 (tagV key k) = true ∧ regS zs key k = p ∧ regD zs key k = 0 := by
  have hc : okC zs = true := by simp only [regOk, Bool.and_eq_true] at hr; exact hr.1
  have ha : atC zs (3 + p) = true := atC_iff.2 ⟨hc, by omega, by omega⟩
  have hw : isW (tagV key k) = true := isW_iff.2 (by have := tagV_bd key k; omega)
  have h1 : casOk zs (3 + p) 0 = true := by unfold casOk; rw [ha]; show (cellK zs p == 0) = true; rw [hx]; rfl
  have h2 : storeOk zs (3 + p) (tagV key k) = true := by unfold storeOk; rw [ha, hw]; rfl
  obtain ⟨e1, e2, e3⟩ := reg_new (zs := zs) (key := key) (k := k) hr (by rw [hf]; exact (by decide : (-1 : Int) < 0)) (by rw [hf]; exact h0)
  rw [hf] at e1 e2
  refine ⟨?_, ?_, e2, e3⟩
  · rw [e1]; unfold casC; rw [if_pos h1]; exact store_yes h2
  · unfold casR; rw [h1, h2]; rfl
/-- And where it ends at the key's own. -/
theorem reg_found {zs : List Int} {key : ByteArray} {k p kd : Int} (hr : regOk zs key k = true) (h0 : 0 ≤ p) (h3 : p ≤ 3) (hf : findV zs key = (p, kd, -1)) (hx : cellK zs p ≠ 0) (t : Int) :
    casR zs (3 + p) 0 t = false ∧ regC zs key k = zs ∧ regS zs key k = p ∧ regD zs key k = if kd = k then 0 else 4 := by
  obtain ⟨e1, e2, e3⟩ := reg_slot (zs := zs) (key := key) (k := k) hr (by rw [hf]; exact h0)
  rw [hf] at e2 e3
  refine ⟨?_, e1, e2, e3⟩
  have h1 : casOk zs (3 + p) 0 = false := by
    unfold casOk
    rw [show (zs.getD (3 + p).toNat 0 == 0) = false from beq_eq_false_iff_ne.2 hx, Bool.and_false]
  unfold casR; rw [h1]; rfl
end Go.Proofs.YtmglidfnolmcaaaDoor
/-
  Contracts of chapter 2, the model's and the program's: the sum; comparing two rows.
-/
namespace Go.Proofs.YtmglidfnolmcaaaDoor
open Go.RowKit M
set_option linter.unusedVariables false
def addOk (zs : List Int) (i n : Int) : Bool := atC zs i && (decide (-281474976710655 ≤ n) && decide (n ≤ 281474976710655))
/-- The sum of a cell and a number, modulo the word. -/
def addM (old n : Int) : Int := (old + n) % 281474976710656
def addC (zs : List Int) (i n : Int) : List Int := if addOk zs i n then zs.set i.toNat (addM (zs.getD i.toNat 0) n) else zs
def addR (zs : List Int) (i n : Int) : Int := if addOk zs i n then zs.getD i.toNat 0 else -1
theorem addC_length (zs : List Int) (i n : Int) : (addC zs i n).length = zs.length := by unfold addC; split <;> simp
theorem addM_bd (old n : Int) : 0 ≤ addM old n ∧ addM old n ≤ 281474976710655 := by unfold addM; omega
theorem addM_isW (old n : Int) : isW (addM old n) = true := isW_iff.2 (addM_bd old n)
theorem add_store {zs : List Int} {i n : Int} (h : addOk zs i n = true) (m : Int) (hm : m = addM (zs.getD i.toNat 0) n) : storeC zs i m = addC zs i n ∧ swapR zs i m = addR zs i n := by
  have ha : atC zs i = true := by simp only [addOk, Bool.and_eq_true] at h; exact h.1
  have hs : storeOk zs i m = true := by unfold storeOk; rw [ha, hm, addM_isW]; rfl
  constructor
  · rw [store_yes hs, addC, if_pos h, hm]
  · rw [swapR, if_pos hs, addR, if_pos h]
set_option maxRecDepth 100000 in
theorem iAdd_any (w : World) (v : Value) (zs : List Int) (i n : Int) (h : Ints w v zs) (hl : zs.length ≤ 1048576) (n0 : -9223372036854775808 ≤ n) (n1 : n ≤ 9223372036854775807) :
    Calls Tryd.prog 29 #[v, .int .i64 i, .int .i64 n] w (TupI w (addC zs i n) (.int .i64 (addR zs i n))) := by
  cases ha : atC zs i with
  | false =>
    have hs : addOk zs i n = false := by unfold addOk; rw [ha]; rfl
    have HR := Lib.hid (show addR zs i n = -1 from if_neg (by rw [hs]; decide))
    have HX := Lib.hid (show addC zs i n = zs from if_neg (by rw [hs]; decide))
    have HC := Lib.hid (clone_any w v zs h hl)
    have HA := Lib.hid (iLoad_no w v zs i h ha)
    rw [HX.out]
    generalize addR zs i n = r at *
    obtain rfl : r = -1 := HR.out
    clear hs ha h HR HX
    go_enter Tryd.func29, Tryd.ntmps29
    go_wp2_with fail
    refine HA.out.mono ?_
    rintro e w1 ⟨rfl, rfl⟩
    go_wp2_with fail
    refine HC.out.mono ?_
    rintro e w1 ⟨u, rfl, ho, hb⟩
    have HO := Lib.hid ho
    have HB := Lib.hid hb
    clear ho hb
    go_wp2_with fail
    go_ret2
    exact ⟨_, rfl, HO.out, HB.out⟩
  | true =>
    have HA := Lib.hid (iLoad_yes w v zs i h ha)
    by_cases b0 : n ≤ -281474976710656 ∨ 281474976710656 ≤ n
    · have hs : addOk zs i n = false := by
        simp only [addOk, ha, Bool.true_and, Bool.and_eq_false_iff, decide_eq_false_iff_not]; omega
      have HR := Lib.hid (show addR zs i n = -1 from if_neg (by rw [hs]; decide))
      have HX := Lib.hid (show addC zs i n = zs from if_neg (by rw [hs]; decide))
      have HC := Lib.hid (clone_any w v zs h hl)
      rw [HX.out]
      generalize addR zs i n = r at *
      obtain rfl : r = -1 := HR.out
      generalize zs.getD i.toNat 0 = z at *
      clear hs ha h HR HX
      by_cases b1 : n ≤ -281474976710656
      · have t1 : decide (n ≤ -281474976710656) = true := by simp; omega
        clear b0
        go_enter Tryd.func29, Tryd.ntmps29
        go_wp2_with fail
        refine HA.out.mono ?_
        rintro e w1 ⟨rfl, rfl⟩
        go_wp2_with fail
        refine HC.out.mono ?_
        rintro e w1 ⟨u, rfl, ho, hb⟩
        have HO := Lib.hid ho
        have HB := Lib.hid hb
        clear ho hb
        go_wp2_with fail
        go_ret2
        exact ⟨_, rfl, HO.out, HB.out⟩
      · have t1 : decide (n ≤ -281474976710656) = false := by simp; omega
        have t2 : decide (281474976710656 ≤ n) = true := by simp; omega
        clear b0
        go_enter Tryd.func29, Tryd.ntmps29
        go_wp2_with fail
        refine HA.out.mono ?_
        rintro e w1 ⟨rfl, rfl⟩
        go_wp2_with fail
        refine HC.out.mono ?_
        rintro e w1 ⟨u, rfl, ho, hb⟩
        have HO := Lib.hid ho
        have HB := Lib.hid hb
        clear ho hb
        go_wp2_with fail
        go_ret2
        exact ⟨_, rfl, HO.out, HB.out⟩
    · have hs : addOk zs i n = true := by
        simp only [addOk, ha, Bool.true_and, Bool.and_eq_true, decide_eq_true_eq]; omega
      obtain ⟨h0, i0, i1⟩ := atC_iff.1 ha
      have hlen := okC_len h0
      obtain ⟨z0, z1⟩ := okC_at h0 i.toNat (by omega)
      have hst := add_store hs ((zs.getD i.toNat 0 + n) % 281474976710656) rfl
      have HS := iSwap_any w v zs i ((zs.getD i.toNat 0 + n) % 281474976710656) h hl
      rw [hst.1, hst.2] at HS
      have HS2 := Lib.hid HS
      generalize addC zs i n = ys at *
      generalize addR zs i n = r at *
      generalize zs.getD i.toNat 0 = z at *
      have t1 : decide (n ≤ -281474976710656) = false := by simp; omega
      have t2 : decide (281474976710656 ≤ n) = false := by simp; omega
      have t3 : -281474976710656 < n := by omega
      have t4 : n < 281474976710656 := by omega
      clear hs ha h h0 hlen hst HS b0
      go_enter Tryd.func29, Tryd.ntmps29
      go_wp2_with fail
      refine HA.out.mono ?_
      rintro e w1 ⟨rfl, rfl⟩
      go_wp2_with fail
      refine HS2.out.mono ?_
      rintro e w1 ⟨u, rfl, ho, hb⟩
      have HO := Lib.hid ho
      have HB := Lib.hid hb
      clear ho hb
      go_wp2_with fail
      go_ret2
      exact ⟨_, rfl, HO.out, HB.out⟩
end Go.Proofs.YtmglidfnolmcaaaDoor
/-
  Rows of records, whatever the record: reading one that came in or was made; one that a call made itself: storing a record, a new one, an empty one.
-/
namespace Go.Proofs.YtmglidfnolmcaaaDoor
open Go.RowKit M
set_option linter.unusedVariables false
section
variable {α : Type} {F : Nat} {c : α → Array Value} {z : α} {t : TypeId}
/-- Record r lies in block b from cell o on. -/
def RecAt (F : Nat) (c : α → Array Value) (w : World) (b o : Nat) (r : α) : Prop := ∀ k, k < F → w.cell? ⟨b, o + k, none⟩ = (c r)[k]?
theorem RecAt.below {w w' : World} {b o : Nat} {r : α} (h : RecAt F c w b o r) (hlt : b < w.heap.size) (hb : Below w.heap.size w w') : RecAt F c w' b o r :=
  fun k hk => (hb.cell (p := ⟨b, o + k, none⟩) hlt).trans (h k hk)
/-- The slice value v reads as the records l (nil, or of no length, or one whose cells are there). -/
def RecsArg (F : Nat) (c : α → Array Value) (z : α) (w : World) (v : Value) (l : List α) : Prop :=
  ∃ A cap, v = .slice A l.length cap ∧ l.length ≤ cap ∧ cap ≤ maxLen ∧ (0 < l.length → ∃ b off, A = some ⟨b, off, none⟩ ∧ b < w.heap.size ∧ ∀ j, j < l.length → RecAt F c w b (off + j * F) (l.getD j z))
theorem RecsArg.below {w w' : World} {v : Value} {l : List α} (h : RecsArg F c z w v l) (hb : Below w.heap.size w w') : RecsArg F c z w' v l := by
  obtain ⟨A, cap, e, h1, h2, h3⟩ := h
  refine ⟨A, cap, e, h1, h2, fun hp => ?_⟩
  obtain ⟨b, off, ea, h4, h5⟩ := h3 hp
  exact ⟨b, off, ea, Nat.lt_of_lt_of_le h4 hb.size, fun j hj => (h5 j hj).below h4 hb⟩
theorem RecsArg.nil (w : World) : RecsArg F c z w (.slice none 0 0) [] := ⟨none, 0, rfl, Nat.zero_le _, Nat.zero_le _, fun h => absurd h (by simp)⟩
/-- The records are the call's own: in a block from base on. -/
def OwnF (t : TypeId) (F : Nat) (c : α → Array Value) (w : World) (base : Nat) (v : Value) (l : List α) : Prop := w.ownsRow base t F v l.length (cellsF c l)
theorem OwnF.alloc {w : World} {base : Nat} {v : Value} {l : List α} (h : OwnF t F c w base v l) (o : Obj) : OwnF t F c (w.alloc o) base v l := World.ownsRow.alloc h o
theorem OwnF.kept {w w' : World} {base : Nat} {v : Value} {l : List α} {row : Option Nat} (h : OwnF t F c w base v l) (hg : w.grownBy w' row) (hne : v.ownBlock = none ∨ v.ownBlock ≠ row) : OwnF t F c w' base v l := World.ownsRow.kept h hg hne
theorem OwnF.base_le {w : World} {base : Nat} {v : Value} {l : List α} (h : OwnF t F c w base v l) : ∀ k, v.ownBlock = some k → base ≤ k := fun k hk => (World.ownsRow.lt h k hk).1
theorem OwnF.lt {w : World} {base : Nat} {v : Value} {l : List α} (h : OwnF t F c w base v l) : ∀ k, v.ownBlock = some k → k < w.heap.size := fun k hk => (World.ownsRow.lt h k hk).2
theorem OwnF.below {w w' : World} {base : Nat} {v : Value} {l : List α} (h : OwnF t F c w base v l) (hb : Below w.heap.size w w') : OwnF t F c w' base v l :=
  h.kept (row := none) ⟨hb.os, hb.tape, hb.output, hb.size, fun i hi _ => hb.block i hi⟩ (by cases v.ownBlock <;> simp)
theorem OwnF.base {w : World} {b b' : Nat} {v : Value} {l : List α} (h : OwnF t F c w b v l) (hb : b' ≤ b) : OwnF t F c w b' v l := by
  rcases h.2 with ⟨h1, h2⟩ | ⟨g, cap, cur, h1, h2, h3⟩
  · exact ⟨h.1, .inl ⟨h1, h2⟩⟩
  · exact ⟨h.1, .inr ⟨g, cap, cur, h1, Nat.le_trans hb h2, h3⟩⟩
theorem OwnF.shape {w : World} {base : Nat} {v : Value} {l : List α} (h : OwnF t F c w base v l) : ∃ A cap, v = .slice A l.length cap := by
  rcases h.2 with ⟨rfl, h0⟩ | ⟨g, cap, cur, rfl, _⟩
  · exact ⟨none, 0, by rw [h0]⟩
  · exact ⟨_, cap, rfl⟩
theorem OwnF.arg {w : World} {base : Nat} {v : Value} {l : List α} (h : OwnF t F c w base v l) (hF : ∀ r, (c r).size = F) (z : α) : RecsArg F c z w v l := by
  have h' := h
  rcases h.2 with ⟨rfl, h0⟩ | ⟨g, cap, cur, rfl, hb, hg, hn, hm, hc, ht⟩
  · exact ⟨none, 0, by rw [h0], by omega, Nat.zero_le _, fun h => by omega⟩
  · refine ⟨_, cap, rfl, hn, hm, fun _ => ⟨g, 0, rfl, (World.ownsRow.lt h' g rfl).2, fun j hj k hk => ?_⟩⟩
    have hlt : j * F + k < l.length * F := Nat.lt_of_lt_of_le (show j * F + k < (j + 1) * F by rw [Nat.add_mul]; omega) (Nat.mul_le_mul_right F hj)
    rw [Nat.zero_add, World.ownsRow.cellAt h' (j * F + k) hlt, cellsF_at hF z l j k hj hk]
theorem OwnF.at {w : World} {base g n cap : Nat} {l : List α} (h : OwnF t F c w base (.slice (some ⟨g, 0, none⟩) n cap) l) (hF : ∀ r, (c r).size = F) (z : α) (hn : l.length = n) (j : Nat) (hj : j < n) : RecAt F c w g (j * F) (l.getD j z) := by
  subst hn
  intro k hk
  have hlt : j * F + k < l.length * F := Nat.lt_of_lt_of_le (show j * F + k < (j + 1) * F by rw [Nat.add_mul]; omega) (Nat.mul_le_mul_right F hj)
  rw [World.ownsRow.cellAt h (j * F + k) hlt, cellsF_at hF z l j k hj hk]
theorem OwnF.frz {w : World} {base g n cap : Nat} {l : List α} (h : OwnF t F c w base (.slice (some ⟨g, 0, none⟩) n cap) l) (hn : l.length = n) (j : Nat) : w.frozen? ⟨g, j, none⟩ = false := by
  subst hn
  exact World.ownsRow.frozenAt h j
/-- So many stores one after another. -/
def putN (w : World) (g o : Nat) : List Value → World
  | [] => w
  | u :: us => putN (w.setCell ⟨g, o, none⟩ u) g (o + 1) us
theorem putN_own {w : World} {base g n cap : Nat} (us xs : List Value) (o : Nat) (h : w.ownsRow base t F (.slice (some ⟨g, 0, none⟩) n cap) n xs) :
    (putN w g o us).ownsRow base t F (.slice (some ⟨g, 0, none⟩) n cap) n (setN xs o us) ∧ w.grownBy (putN w g o us) (some g) := by
  induction us generalizing w xs o with
  | nil => exact ⟨h, World.grownBy.refl _ _⟩
  | cons u us ih =>
    have hs := World.ownsRow.stored h o u
    have := ih (w := w.setCell ⟨g, o, none⟩ u) (xs.set o u) (o + 1) hs.1
    exact ⟨this.1, grownF hs.2 this.2⟩
theorem OwnF.put {w : World} {base g n cap : Nat} {l : List α} (h : OwnF t F c w base (.slice (some ⟨g, 0, none⟩) n cap) l) (hF : ∀ r, (c r).size = F) (hn : l.length = n) (j : Nat) (hj : j < n) (r : α) :
    OwnF t F c (putN w g (j * F) (c r).toList) base (.slice (some ⟨g, 0, none⟩) n cap) (l.set j r) ∧ w.grownBy (putN w g (j * F) (c r).toList) (some g) := by
  subst hn
  have := putN_own (c r).toList (cellsF c l) (j * F) h
  refine ⟨?_, this.2⟩
  unfold OwnF
  rw [List.length_set, ← cellsF_set hF l j hj r]
  exact this.1
/-- A call hands back a new row of records of its own, and turns nothing that was there. -/
def MadeF (t : TypeId) (F : Nat) (c : α → Array Value) (w : World) (l : List α) (e : Ending) (w' : World) : Prop := ∃ v, e = .returned v ∧ OwnF t F c w' w.heap.size v l ∧ Below w.heap.size w w'
/-- An empty one that was just built. -/
theorem OwnF.empty (w : World) (base : Nat) (hb : base ≤ w.heap.size) : OwnF t F c (w.alloc (.cells #[] t)) base (.slice (some ⟨w.heap.size, 0, none⟩) 0 0) [] := by
  unfold OwnF
  exact World.ownsRow_lit w #[] 0 hb (Nat.zero_le _) (by simp)
theorem zeroF_cells (zv : Value) (hz : zv.cells = c z) (hF : ∀ r, (c r).size = F) (h0 : 0 < F) (n : Nat) : (madeCells zv.cells (n * F)).toList = cellsF c (List.replicate n z) := by
  apply List.ext_getElem?
  intro i
  by_cases h : i < n * F
  · have hd : i / F < n := Nat.div_lt_of_lt_mul (by rw [Nat.mul_comm]; exact h)
    have hm : i % F < F := Nat.mod_lt _ h0
    have e : i = i / F * F + i % F := by rw [Nat.mul_comm]; exact (Nat.div_add_mod i F).symm
    have hg : (List.replicate n z).getD (i / F) z = z := by
      rw [List.getD_eq_getElem?_getD, List.getElem?_replicate]; split <;> rfl
    conv => rhs; rw [e]
    rw [cellsF_at hF z _ _ _ (by rw [List.length_replicate]; exact hd) hm, hz, hg, Array.getElem?_toList]
    unfold madeCells
    rw [hF, Array.getElem?_map, Array.getElem?_range, if_pos h]
    have hk : i % F < (c z).size := by rw [hF]; exact hm
    simp [getElem!_pos, hk]
  · rw [List.getElem?_eq_none (by rw [Array.length_toList, size_madeCells]; omega), List.getElem?_eq_none (by rw [cellsF_length hF, List.length_replicate]; omega)]
/-- Filling from the front: what is there after j records are stored. -/
def partF (z : α) (l : List α) (j : Nat) : List α := l.take j ++ List.replicate (l.length - j) z
theorem partF_length (l : List α) (j : Nat) : (partF z l j).length = l.length := by
  simp only [partF, List.length_append, List.length_take, List.length_replicate]; omega
theorem partF_all (l : List α) : partF z l l.length = l := by simp [partF]
theorem partF_zero (l : List α) : partF z l 0 = List.replicate l.length z := by simp [partF]
theorem partF_set (l : List α) (j : Nat) (hj : j < l.length) : (partF z l j).set j (l.getD j z) = partF z l (j + 1) := by
  apply List.ext_getElem?
  intro i
  unfold partF
  rcases Nat.lt_trichotomy i j with h | h | h
  · rw [List.getElem?_set_ne (by omega), List.getElem?_append_left (by simp; omega), List.getElem?_append_left (by simp; omega), List.getElem?_take_of_lt h, List.getElem?_take_of_lt (by omega)]
  · subst h
    rw [List.getElem?_set_self (by simp; omega), List.getElem?_append_left (by simp; omega), List.getElem?_take_of_lt (by omega), List.getD_eq_getElem?_getD, List.getElem?_eq_getElem hj]; rfl
  · rw [List.getElem?_set_ne (by omega), List.getElem?_append_right (by simp; omega), List.getElem?_append_right (by simp; omega)]
    simp only [List.length_take, List.getElem?_replicate]
    congr 1
    simp only [eq_iff_iff]
    omega
/-- What is left of a budget behind the records' texts. -/
def szLF (s : α → Nat) : List α → Int → Int
  | [], l => l
  | r :: rs, l => if l - (s r : Int) < 0 then -1 else szLF s rs (l - (s r : Int))
def szVF (s : α → Nat) (rs : List α) (l : Int) : Int := if l - (rs.length : Int) < 0 then -1 else szLF s rs (l - (rs.length : Int))
theorem szLF_drop (s : α → Nat) (z : α) (rs : List α) (j : Nat) (hj : j < rs.length) (c : Int) : szLF s (rs.drop j) c = if c - (s (rs.getD j z) : Int) < 0 then -1 else szLF s (rs.drop (j + 1)) (c - (s (rs.getD j z) : Int)) := by
  rw [List.drop_eq_getElem_cons hj, List.getD_eq_getElem?_getD, List.getElem?_eq_getElem hj]
  rfl
theorem szLF_le (s : α → Nat) : ∀ (rs : List α) (l : Int), szLF s rs l ≤ l ∨ szLF s rs l = -1
  | [], l => .inl (Int.le_refl _)
  | r :: rs, l => by
    unfold szLF
    split
    · exact .inr rfl
    · rcases szLF_le s rs (l - (s r : Int)) with h | h
      · exact .inl (by omega)
      · exact .inr h
theorem szVF_le {s : α → Nat} {rs : List α} {l : Int} (h : 0 ≤ szVF s rs l) : (rs.length : Int) ≤ l ∧ szVF s rs l ≤ l := by
  unfold szVF at *
  split at h
  · omega
  · rename_i h2
    rw [if_neg h2]
    rcases szLF_le s rs (l - (rs.length : Int)) with h3 | h3 <;> omega
theorem below_madeF {w w1 : World} (hg : w.grownBy w1 none) : Below w.heap.size w w1 := (Below.refl _ _).grown hg (Nat.le_refl _) (by intro _ h; cases h)
end
end Go.Proofs.YtmglidfnolmcaaaDoor
/-
  A heap of own rows, apart from one another: what calls and stores leave of it.
-/
namespace Go.Proofs.YtmglidfnolmcaaaDoor
open Go.RowKit M
set_option linter.unusedVariables false
/-- v's block, if it has one, is not u's. -/
def Ap (v u : Value) : Prop := v.ownBlock = none ∨ v.ownBlock ≠ u.ownBlock
theorem Ap.of {v u : Value} {B : Nat} (hv : ∀ k, v.ownBlock = some k → k < B) (hu : ∀ k, u.ownBlock = some k → B ≤ k) : Ap v u ∧ Ap u v := by
  cases ev : v.ownBlock with
  | none => exact ⟨.inl ev, by cases eu : u.ownBlock with
      | none => exact .inl eu
      | some k => exact .inr (by rw [eu, ev]; intro h; cases h)⟩
  | some k =>
    have h1 := hv k ev
    refine ⟨.inr ?_, ?_⟩
    · rw [ev]; intro h; have := hu k h.symm; omega
    · cases eu : u.ownBlock with
      | none => exact .inl eu
      | some j => exact .inr (by rw [eu, ev]; intro h; injection h with h; have := hu j eu; omega)
theorem Ap.symm {v u : Value} (h : Ap v u) : Ap u v := by
  cases eu : u.ownBlock with
  | none => exact .inl eu
  | some j =>
    refine .inr ?_
    rcases h with h | h
    · rw [eu, h]; intro k; cases k
    · exact fun k => h (by rw [k])
/-- One own row: the slice value, the type of an element, an element's cells, how many elements, all cells. -/
structure Rw where
  v : Value
  t : TypeId
  F : Nat
  n : Nat
  cs : List Value
def Rw.own (w : World) (base : Nat) (r : Rw) : Prop := w.ownsRow base r.t r.F r.v r.n r.cs
/-- The rows are the call's own, each in a block of its own. -/
structure Heap (w : World) (base : Nat) (L : List Rw) : Prop where
  own : ∀ r ∈ L, r.own w base
  ap : L.Pairwise fun a b => Ap a.v b.v ∧ Ap b.v a.v
theorem Heap.nil (w : World) (base : Nat) : Heap w base [] := ⟨fun r h => (by cases h), List.Pairwise.nil⟩
theorem Heap.lt {w : World} {base : Nat} {L : List Rw} (h : Heap w base L) {r : Rw} (hr : r ∈ L) : ∀ k, r.v.ownBlock = some k → k < w.heap.size := fun k hk => (World.ownsRow.lt (h.own r hr) k hk).2
theorem Heap.base_le {w : World} {base : Nat} {L : List Rw} (h : Heap w base L) {r : Rw} (hr : r ∈ L) : ∀ k, r.v.ownBlock = some k → base ≤ k := fun k hk => (World.ownsRow.lt (h.own r hr) k hk).1
theorem Rw.own_base {w : World} {b b' : Nat} {r : Rw} (h : r.own w b) (hb : b' ≤ b) : r.own w b' := by
  rcases h.2 with ⟨h1, h2⟩ | ⟨g, cap, cur, h1, h2, h3⟩
  · exact ⟨h.1, .inl ⟨h1, h2⟩⟩
  · exact ⟨h.1, .inr ⟨g, cap, cur, h1, Nat.le_trans hb h2, h3⟩⟩
theorem Heap.base {w : World} {b b' : Nat} {L : List Rw} (h : Heap w b L) (hb : b' ≤ b) : Heap w b' L := ⟨fun r hr => Rw.own_base (h.own r hr) hb, h.ap⟩
/-- What a call or a store outside leaves. -/
theorem Heap.grown {w w' : World} {base : Nat} {L : List Rw} {row : Option Nat} (h : Heap w base L) (hg : w.grownBy w' row) (hne : ∀ r ∈ L, r.v.ownBlock = none ∨ r.v.ownBlock ≠ row) : Heap w' base L :=
  ⟨fun r hr => World.ownsRow.kept (h.own r hr) hg (hne r hr), h.ap⟩
theorem Heap.below {w w' : World} {base : Nat} {L : List Rw} (h : Heap w base L) (hb : Below w.heap.size w w') : Heap w' base L :=
  h.grown (row := none) ⟨hb.os, hb.tape, hb.output, hb.size, fun i hi _ => hb.block i hi⟩ (fun r _ => by cases r.v.ownBlock <;> simp)
theorem Heap.alloc {w : World} {base : Nat} {L : List Rw} (h : Heap w base L) (o : Obj) : Heap (w.alloc o) base L := ⟨fun r hr => World.ownsRow.alloc (h.own r hr) o, h.ap⟩
theorem Heap.sub {w : World} {base : Nat} {L M : List Rw} (h : Heap w base L) (hs : List.Sublist M L) : Heap w base M := ⟨fun r hr => h.own r (hs.mem hr), h.ap.sublist hs⟩
/-- Two heaps of which one was made behind the other. -/
theorem Heap.join {w : World} {base B : Nat} {L M : List Rw} (h : Heap w base L) (k : Heap w B M) (hB : base ≤ B) (hlt : ∀ r ∈ L, ∀ b, r.v.ownBlock = some b → b < B) : Heap w base (L ++ M) := by
  refine ⟨fun r hr => ?_, ?_⟩
  · rcases List.mem_append.1 hr with h1 | h1
    · exact h.own r h1
    · exact Rw.own_base (k.own r h1) hB
  · rw [List.pairwise_append]
    exact ⟨h.ap, k.ap, fun a ha b hb => Ap.of (hlt a ha) (k.base_le hb)⟩
theorem Heap.one {w : World} {base : Nat} {r : Rw} (h : r.own w base) : Heap w base [r] := ⟨fun x hx => by rw [List.mem_singleton.1 hx]; exact h, List.pairwise_singleton _ _⟩
/-- A store into one of the rows. -/
theorem Heap.set {w : World} {base g n cap : Nat} {A M : List Rw} {t : TypeId} {F : Nat} {cs : List Value} (h : Heap w base (A ++ ⟨.slice (some ⟨g, 0, none⟩) n cap, t, F, n, cs⟩ :: M)) (j : Nat) (u : Value) :
    Heap (w.setCell ⟨g, j, none⟩ u) base (A ++ ⟨.slice (some ⟨g, 0, none⟩) n cap, t, F, n, cs.set j u⟩ :: M) ∧ w.grownBy (w.setCell ⟨g, j, none⟩ u) (some g) := by
  have hr := h.own ⟨.slice (some ⟨g, 0, none⟩) n cap, t, F, n, cs⟩ (by simp)
  have hs := World.ownsRow.stored hr j u
  have hp := h.ap
  rw [List.pairwise_append] at hp
  obtain ⟨pA, pM, pAM⟩ := hp
  rw [List.pairwise_cons] at pM
  have away : ∀ r ∈ A ++ M, r.v.ownBlock = none ∨ r.v.ownBlock ≠ some g := by
    intro r hr
    rcases List.mem_append.1 hr with h1 | h1
    · exact (pAM r h1 ⟨.slice (some ⟨g, 0, none⟩) n cap, t, F, n, cs⟩ (by simp)).1
    · exact (pM.1 r h1).2
  refine ⟨⟨fun r hr' => ?_, ?_⟩, hs.2⟩
  · rcases List.mem_append.1 hr' with h1 | h1
    · exact World.ownsRow.kept (h.own r (by simp [h1])) hs.2 (away r (by simp [h1]))
    · rcases List.mem_cons.1 h1 with rfl | h2
      · exact hs.1
      · exact World.ownsRow.kept (h.own r (by simp [h2])) hs.2 (away r (by simp [h2]))
  · rw [List.pairwise_append, List.pairwise_cons]
    exact ⟨pA, ⟨fun b hb => pM.1 b hb, pM.2⟩, fun a ha b hb => by
      rcases List.mem_cons.1 hb with rfl | h2
      · exact pAM a ha ⟨.slice (some ⟨g, 0, none⟩) n cap, t, F, n, cs⟩ (by simp)
      · exact pAM a ha b (by simp [h2])⟩
/-- One of the rows is another one now, in its own block or in a new one; the others stand. -/
theorem Heap.turn {w w' : World} {base : Nat} {A M : List Rw} {r r' : Rw} (h : Heap w base (A ++ r :: M)) (hg : w.grownBy w' r.v.ownBlock) (hr : r'.own w' base) (hv : r'.v.ownBlock = r.v.ownBlock ∨ ∀ k, r'.v.ownBlock = some k → w.heap.size ≤ k) : Heap w' base (A ++ r' :: M) := by
  have hp := h.ap
  rw [List.pairwise_append] at hp
  obtain ⟨pA, pM, pAM⟩ := hp
  rw [List.pairwise_cons] at pM
  have far : ∀ x, x ∈ A ∨ x ∈ M → Ap x.v r'.v ∧ Ap r'.v x.v := by
    intro x hx
    rcases hv with e | hk
    · have := show Ap x.v r.v ∧ Ap r.v x.v from by
        rcases hx with h1 | h1
        · exact pAM x h1 r (by simp)
        · exact (pM.1 x h1).symm
      unfold Ap at this ⊢
      rw [e]; exact this
    · exact Ap.of (fun k hk' => h.lt (by rcases hx with h1 | h1 <;> simp [h1]) k hk') hk
  have away : ∀ x, x ∈ A ∨ x ∈ M → x.v.ownBlock = none ∨ x.v.ownBlock ≠ r.v.ownBlock := by
    intro x hx
    rcases hx with h1 | h1
    · exact (pAM x h1 r (by simp)).1
    · exact (pM.1 x h1).2
  refine ⟨fun x hx => ?_, ?_⟩
  · rcases List.mem_append.1 hx with h1 | h1
    · exact World.ownsRow.kept (h.own x (by simp [h1])) hg (away x (.inl h1))
    · rcases List.mem_cons.1 h1 with rfl | h2
      · exact hr
      · exact World.ownsRow.kept (h.own x (by simp [h2])) hg (away x (.inr h2))
  · rw [List.pairwise_append, List.pairwise_cons]
    exact ⟨pA, ⟨fun b hb => (far b (.inr hb)).symm, pM.2⟩, fun a ha b hb => by
      rcases List.mem_cons.1 hb with rfl | h2
      · exact far a (.inl ha)
      · exact pAM a ha b (by simp [h2])⟩
/-- From one world to a later one no block changed but those of S. -/
structure Chg (S : Nat → Prop) (w w' : World) : Prop where
  os : w'.os = w.os
  tape : w'.tape = w.tape
  output : w'.output = w.output
  size : w.heap.size ≤ w'.heap.size
  block : ∀ i, i < w.heap.size → ¬ S i → w'.heap[i]? = w.heap[i]?
theorem Chg.refl (S : Nat → Prop) (w : World) : Chg S w w := ⟨rfl, rfl, rfl, Nat.le_refl _, fun _ _ _ => rfl⟩
theorem Chg.of_grown {S : Nat → Prop} {w w' : World} {row : Option Nat} (h : w.grownBy w' row) (hS : ∀ i, row = some i → S i) : Chg S w w' :=
  ⟨h.os, h.tape, h.output, h.size, fun i hi hn => h.block i hi (fun e => hn (hS i e.symm))⟩
theorem Chg.of_below {S : Nat → Prop} {w w' : World} (h : Below w.heap.size w w') : Chg S w w' := ⟨h.os, h.tape, h.output, h.size, fun i hi _ => h.block i hi⟩
theorem Chg.trans {S : Nat → Prop} {a b c : World} (h : Chg S a b) (k : Chg S b c) : Chg S a c :=
  ⟨k.os.trans h.os, k.tape.trans h.tape, k.output.trans h.output, Nat.le_trans h.size k.size, fun i hi hn => (k.block i (Nat.lt_of_lt_of_le hi h.size) hn).trans (h.block i hi hn)⟩
theorem Chg.to_below {S : Nat → Prop} {w0 w w' : World} {B : Nat} (hb : Below B w0 w) (h : Chg S w w') (hB : B ≤ w.heap.size) (hS : ∀ i, S i → B ≤ i) : Below B w0 w' :=
  ⟨h.os.trans hb.os, h.tape.trans hb.tape, h.output.trans hb.output, Nat.le_trans hb.size h.size, fun i hi => (h.block i (by omega) (fun s => by have := hS i s; omega)).trans (hb.block i hi)⟩
theorem ownsRow_chg {S : Nat → Prop} {w w' : World} {base n F : Nat} {t : TypeId} {v : Value} {xs : List Value} (h : w.ownsRow base t F v n xs) (hc : Chg S w w') (hn : ∀ k, v.ownBlock = some k → ¬ S k) : w'.ownsRow base t F v n xs := by
  have hlt := World.ownsRow.lt h
  rcases h.2 with ⟨h1, h2⟩ | ⟨g, cap, cur, rfl, hb, hg, h3⟩
  · exact ⟨h.1, .inl ⟨h1, h2⟩⟩
  · exact ⟨h.1, .inr ⟨g, cap, cur, rfl, hb, (hc.block g (hlt g rfl).2 (hn g rfl)).trans hg, h3⟩⟩
theorem Heap.chg {S : Nat → Prop} {w w' : World} {base : Nat} {L : List Rw} (h : Heap w base L) (hc : Chg S w w') (hn : ∀ r ∈ L, ∀ k, r.v.ownBlock = some k → ¬ S k) : Heap w' base L :=
  ⟨fun r hr => ownsRow_chg (h.own r hr) hc (hn r hr), h.ap⟩
/-- The blocks of a list of rows. -/
def Blocks (L : List Rw) (i : Nat) : Prop := ∃ r ∈ L, r.v.ownBlock = some i
/-- Rows within a row: the inner ones. -/
def inner {α : Type} (t : TypeId) (F : Nat) (c : α → Array Value) (vs : List Value) (ls : List (List α)) : List Rw := List.zipWith (fun u l => ⟨u, t, F, l.length, cellsF c l⟩) vs ls
/-- A row of rows of records, all of the call's own: the outer one has one cell for each inner one. -/
def OwnD {α : Type} (t1 t : TypeId) (F : Nat) (c : α → Array Value) (w : World) (base : Nat) (v : Value) (ls : List (List α)) : Prop :=
  ∃ vs : List Value, vs.length = ls.length ∧ Heap w base (⟨v, t1, 1, ls.length, vs⟩ :: inner t F c vs ls)
/-- The slice value v reads as rows of records. -/
def ArgD {α : Type} (F : Nat) (c : α → Array Value) (z : α) (w : World) (v : Value) (ls : List (List α)) : Prop :=
  ∃ A cap, v = .slice A ls.length cap ∧ ls.length ≤ cap ∧ cap ≤ maxLen ∧ (0 < ls.length → ∃ b off, A = some ⟨b, off, none⟩ ∧ b < w.heap.size ∧ ∀ j, j < ls.length → ∃ u, w.cell? ⟨b, off + j, none⟩ = some u ∧ RecsArg F c z w u (ls.getD j []))
theorem ArgD.below {α : Type} {F : Nat} {c : α → Array Value} {z : α} {w w' : World} {v : Value} {ls : List (List α)} (h : ArgD F c z w v ls) (hb : Below w.heap.size w w') : ArgD F c z w' v ls := by
  obtain ⟨A, cap, e, h1, h2, h3⟩ := h
  refine ⟨A, cap, e, h1, h2, fun hp => ?_⟩
  obtain ⟨b, off, ea, h4, h5⟩ := h3 hp
  exact ⟨b, off, ea, Nat.lt_of_lt_of_le h4 hb.size, fun j hj => by
    obtain ⟨u, hu, ha⟩ := h5 j hj
    exact ⟨u, (hb.cell (p := ⟨b, off + j, none⟩) h4).trans hu, ha.below hb⟩⟩
theorem OwnD.below {α : Type} {t1 t : TypeId} {F : Nat} {c : α → Array Value} {w w' : World} {base : Nat} {v : Value} {ls : List (List α)} (h : OwnD t1 t F c w base v ls) (hb : Below w.heap.size w w') : OwnD t1 t F c w' base v ls := by
  obtain ⟨vs, h1, h2⟩ := h
  exact ⟨vs, h1, h2.below hb⟩
theorem inner_at {α : Type} {t : TypeId} {F : Nat} {c : α → Array Value} {vs : List Value} {ls : List (List α)} (hl : vs.length = ls.length) (j : Nat) (hj : j < ls.length) (d : Value) : (⟨vs.getD j d, t, F, (ls.getD j []).length, cellsF c (ls.getD j [])⟩ : Rw) ∈ inner t F c vs ls := by
  unfold inner
  have hj' : j < vs.length := by omega
  rw [List.mem_iff_getElem]
  refine ⟨j, by simp [List.length_zipWith]; omega, ?_⟩
  rw [List.getElem_zipWith, List.getD_eq_getElem?_getD, List.getD_eq_getElem?_getD, List.getElem?_eq_getElem hj, List.getElem?_eq_getElem hj']
  rfl
theorem OwnD.arg {α : Type} {t1 t : TypeId} {F : Nat} {c : α → Array Value} {w : World} {base : Nat} {v : Value} {ls : List (List α)} (h : OwnD t1 t F c w base v ls) (hF : ∀ r, (c r).size = F) (z : α) : ArgD F c z w v ls := by
  obtain ⟨vs, hl, hh⟩ := h
  have ho := hh.own ⟨v, t1, 1, ls.length, vs⟩ (by simp)
  have ho' := ho
  rcases ho.2 with ⟨e, h0⟩ | ⟨g, cap, cur, e, hb, hg, hn, hm, hc, ht⟩
  · have e : v = .slice none 0 0 := e
    have h00 : ls.length = 0 := h0
    subst e
    exact ⟨none, 0, by rw [h00], by omega, Nat.zero_le _, fun h => by omega⟩
  · have e : v = .slice (some ⟨g, 0, none⟩) ls.length cap := e
    subst e
    refine ⟨_, cap, rfl, hn, hm, fun _ => ⟨g, 0, rfl, (World.ownsRow.lt ho' g rfl).2, fun j hj => ⟨vs.getD j undef, ?_, ?_⟩⟩⟩
    · have := World.ownsRow.cellAt (w := w) (size := 1) (xs := vs) ho' j (show j < ls.length * 1 by omega)
      rw [Nat.zero_add, this, List.getD_eq_getElem?_getD, List.getElem?_eq_getElem (by omega)]
      rfl
    · exact OwnF.arg (t := t) (base := base) (hh.own _ (List.mem_cons_of_mem _ (inner_at hl j hj undef))) hF z
theorem inner_cons {α : Type} {t : TypeId} {F : Nat} {c : α → Array Value} (V1 V2 : List Value) (u : Value) (X Y : List (List α)) (q : List α) (h : V1.length = X.length) :
    inner t F c (V1 ++ u :: V2) (X ++ q :: Y) = inner t F c V1 X ++ ⟨u, t, F, q.length, cellsF c q⟩ :: inner t F c V2 Y := by
  unfold inner
  induction V1 generalizing X with
  | nil => cases X with
    | nil => rfl
    | cons x X => simp at h
  | cons a V1 ih => cases X with
    | nil => simp at h
    | cons x X => simp only [List.cons_append, List.zipWith_cons_cons]; rw [ih X (by simpa using h)]
/-- The blocks lie from B on, below E. -/
def Within (B E : Nat) (i : Nat) : Prop := B ≤ i ∧ i < E
/-- A heap of own rows that lies below E. -/
def HeapE (w : World) (B E : Nat) (L : List Rw) : Prop := Heap w B L ∧ ∀ r ∈ L, ∀ k, r.v.ownBlock = some k → k < E
theorem HeapE.made {w : World} {B : Nat} {L : List Rw} (h : Heap w B L) : HeapE w B w.heap.size L := ⟨h, fun r hr => h.lt hr⟩
theorem HeapE.below {w w' : World} {B E : Nat} {L : List Rw} (h : HeapE w B E L) (hb : Below w.heap.size w w') : HeapE w' B E L := ⟨h.1.below hb, h.2⟩
/-- What was made in another stretch of blocks stands when one is marked. -/
theorem HeapE.far {w w' : World} {B E B' E' : Nat} {L : List Rw} (h : HeapE w B E L) (hc : Chg (Within B' E') w w') (hd : E ≤ B' ∨ E' ≤ B) : HeapE w' B E L :=
  ⟨h.1.chg hc (fun r hr k hk => fun hw => by have h1 := h.2 r hr k hk; have h2 := h.1.base_le hr k hk; have := hw.1; have := hw.2; omega), h.2⟩
/-- Rows of rows of records in a stretch of blocks. -/
def OwnDE {α : Type} (t1 t : TypeId) (F : Nat) (c : α → Array Value) (w : World) (B E : Nat) (v : Value) (ls : List (List α)) : Prop :=
  ∃ vs : List Value, vs.length = ls.length ∧ HeapE w B E (⟨v, t1, 1, ls.length, vs⟩ :: inner t F c vs ls)
theorem OwnD.made {α : Type} {t1 t : TypeId} {F : Nat} {c : α → Array Value} {w : World} {B : Nat} {v : Value} {ls : List (List α)} (h : OwnD t1 t F c w B v ls) : OwnDE t1 t F c w B w.heap.size v ls := by
  obtain ⟨vs, h1, h2⟩ := h; exact ⟨vs, h1, HeapE.made h2⟩
theorem OwnDE.own {α : Type} {t1 t : TypeId} {F : Nat} {c : α → Array Value} {w : World} {B E : Nat} {v : Value} {ls : List (List α)} (h : OwnDE t1 t F c w B E v ls) : OwnD t1 t F c w B v ls := by
  obtain ⟨vs, h1, h2⟩ := h; exact ⟨vs, h1, h2.1⟩
theorem OwnDE.below {α : Type} {t1 t : TypeId} {F : Nat} {c : α → Array Value} {w w' : World} {B E : Nat} {v : Value} {ls : List (List α)} (h : OwnDE t1 t F c w B E v ls) (hb : Below w.heap.size w w') : OwnDE t1 t F c w' B E v ls := by
  obtain ⟨vs, h1, h2⟩ := h; exact ⟨vs, h1, h2.below hb⟩
theorem OwnDE.far {α : Type} {t1 t : TypeId} {F : Nat} {c : α → Array Value} {w w' : World} {B E B' E' : Nat} {v : Value} {ls : List (List α)} (h : OwnDE t1 t F c w B E v ls) (hc : Chg (Within B' E') w w') (hd : E ≤ B' ∨ E' ≤ B) : OwnDE t1 t F c w' B E v ls := by
  obtain ⟨vs, h1, h2⟩ := h; exact ⟨vs, h1, h2.far hc hd⟩
end Go.Proofs.YtmglidfnolmcaaaDoor
/-
  Rows that lie in blocks of their own: apart from one another; what a mark on one leaves of another.
-/
namespace Go.Proofs.YtmglidfnolmcaaaDoor
open Go.RowKit M
set_option linter.unusedVariables false
theorem OwnI.lt {w : World} {b : Nat} {v : Value} {l : List Int} (h : OwnI w b v l) : ∀ k, v.ownBlock = some k → k < w.heap.size := fun k hk => (World.ownsRow.lt h.1 k hk).2
theorem OwnT.lt {w : World} {b : Nat} {v : Value} {l : List ByteArray} (h : OwnT w b v l) : ∀ k, v.ownBlock = some k → k < w.heap.size := fun k hk => (World.ownsRow.lt h k hk).2
theorem OwnR.lt {w : World} {b : Nat} {v : Value} {l : List R} (h : OwnR w b v l) : ∀ k, v.ownBlock = some k → k < w.heap.size := fun k hk => (World.ownsRow.lt h k hk).2
theorem OwnI.keptA {w w' : World} {base : Nat} {v u : Value} {zs : List Int} (h : OwnI w base v zs) (hg : w.grownBy w' u.ownBlock) (ha : Ap v u) : OwnI w' base v zs := by
  obtain ⟨g, hgv, _⟩ := h.block
  rcases ha with h' | h'
  · rw [hgv] at h'; cases h'
  · exact h.kept hg h'
theorem OwnT.keptA {w w' : World} {base : Nat} {v u : Value} {l : List ByteArray} (h : OwnT w base v l) (hg : w.grownBy w' u.ownBlock) (ha : Ap v u) : OwnT w' base v l := h.kept hg ha
theorem OwnR.keptA {w w' : World} {base : Nat} {v u : Value} {l : List R} (h : OwnR w base v l) (hg : w.grownBy w' u.ownBlock) (ha : Ap v u) : OwnR w' base v l := h.kept hg ha
end Go.Proofs.YtmglidfnolmcaaaDoor
/-
  The package-level variables that the program's text lays (two tables of package unicode/utf8): one world that holds them.
-/
namespace Go.Proofs.YtmglidfnolmcaaaDoor
open Go.ChangeShapes Go.WideShapes Go.ChangeAt Go.RowKit
theorem own : ownKnob Tryd.prog.godebug = none := by kernel_rfl
def accept : List Int := [128, 191, 160, 191, 128, 159, 144, 191, 128, 143, 0, 0, 0, 0, 0, 0, 0, 0, 0, 0, 0, 0, 0, 0, 0, 0, 0, 0, 0, 0, 0, 0]
def setTab (k : IntKind) (zs : List Int) : Obj → Obj
  | .cells _ t frozen => .cells (zs.map (Value.int k)).toArray t frozen
  | o => o
/-- The settled world with the two tables laid. -/
noncomputable def laidWorld (os : Os) : World :=
  let w0 := World.holding Tryd.prog os ⟨#[], #[], []⟩
  { w0 with heap := (w0.heap.modify 2 (setTab .u8 accept)).modify 1 (setTab .u8 (Go.Pinned.utf8FirstZ.map Int.ofNat)) }
end Go.Proofs.YtmglidfnolmcaaaDoor
/-
  Plain mathematics of reading a varint, with no program in sight: how many bytes of a string are the varint of the number that they say, and which number.
-/
namespace Go.Proofs.YtmglidfnolmcaaaDoor.M
open Go.RowKit
theorem len_data (s : ByteArray) : s.data.toList.length = s.size := Array.length_toList
/-- The number of a varint's bytes, least significant group first, high bits ignored. -/
def val : List UInt8 → Nat
  | [] => 0
  | c :: l => c.toNat % 128 + 128 * val l
theorem val_append (l m : List UInt8) : val (l ++ m) = val l + 128 ^ l.length * val m := by
  induction l with
  | nil => simp [val]
  | cons c l ih =>
    simp only [List.cons_append, val, ih, List.length_cons, Nat.pow_succ, Nat.mul_add, Nat.mul_assoc, Nat.mul_comm, Nat.add_assoc]
theorem val_lt (l : List UInt8) : val l < 128 ^ l.length := by
  induction l with
  | nil => simp [val]
  | cons c l ih =>
    have : c.toNat % 128 < 128 := Nat.mod_lt _ (by decide)
    simp only [val, List.length_cons, Nat.pow_succ]
    omega
theorem val_take_le (l : List UInt8) (k : Nat) (h : k ≤ 7) : val (l.take k) ≤ 562949953421311 := by
  have h1 := val_lt (l.take k)
  have h2 : (l.take k).length ≤ 7 := Nat.le_trans (List.length_take_le _ _) h
  have h3 : 128 ^ (l.take k).length ≤ 128 ^ 7 := Nat.pow_le_pow_right (by decide) h2
  have h4 : (128 : Nat) ^ 7 = 562949953421312 := by decide
  omega
theorem val_take (s : ByteArray) (k : Nat) (h : k < s.size) : val (s.data.toList.take (k + 1)) = val (s.data.toList.take k) + 128 ^ k * (s[k].toNat % 128) := by
  rw [take_snoc s k h, val_append]
  have : (s.data.toList.take k).length = k := by rw [List.length_take, len_data]; omega
  rw [this]
  simp [val]
theorem val_drop (s : ByteArray) (k j : Nat) (hk : k ≤ s.size) (h : j < k) : val ((s.data.toList.take k).drop j) = s[j].toNat % 128 + 128 * val ((s.data.toList.take k).drop (j + 1)) := by
  have hl : j < (s.data.toList.take k).length := by rw [List.length_take, len_data]; omega
  rw [List.drop_eq_getElem_cons hl, val]
  simp only [List.getElem_take]
  rfl
theorem val_drop_lt (s : ByteArray) (k j : Nat) (h7 : k ≤ 7) : val ((s.data.toList.take k).drop j) ≤ 562949953421311 := by
  have h1 := val_lt ((s.data.toList.take k).drop j)
  have h2 : ((s.data.toList.take k).drop j).length ≤ 7 := by rw [List.length_drop, List.length_take]; omega
  have h3 : 128 ^ ((s.data.toList.take k).drop j).length ≤ 128 ^ 7 := Nat.pow_le_pow_right (by decide) h2
  have h4 : (128 : Nat) ^ 7 = 562949953421312 := by decide
  omega
theorem take_all (s : ByteArray) : s.data.toList.take s.size = s.data.toList := List.take_of_length_le (Nat.le_of_eq (len_data s))
/-- The first k bytes are the varint of their number. -/
def good (l : List UInt8) (k : Nat) : Bool := vb 6 (val (l.take k)) == l.take k
/-- How many bytes of l are a varint (0: it begins with none). -/
def rvK (l : List UInt8) : Nat := ((List.range 8).find? fun k => decide (1 ≤ k) && (decide (k ≤ l.length) && good l k)).getD 0
def rvN (l : List UInt8) : Nat := if rvK l = 0 then 0 else val (l.take (rvK l))
theorem rvK_first (l : List UInt8) (k : Nat) (h1 : 1 ≤ k) (h7 : k ≤ 7) (hk : k ≤ l.length) (hg : good l k = true) (hn : ∀ j, 1 ≤ j → j < k → good l j = false) : rvK l = k := by
  unfold rvK
  have : (List.range 8).find? (fun k => decide (1 ≤ k) && (decide (k ≤ l.length) && good l k)) = some k := by
    rw [List.find?_range_eq_some]
    refine ⟨by simp [h1, hk, hg], by simp; omega, ?_⟩
    intro j hj
    by_cases h : 1 ≤ j
    · simp [hn j h hj]
    · simp [h]
  rw [this]; rfl
theorem rvK_none (l : List UInt8) (hn : ∀ j, 1 ≤ j → j ≤ 7 → j ≤ l.length → good l j = false) : rvK l = 0 := by
  unfold rvK
  have : (List.range 8).find? (fun k => decide (1 ≤ k) && (decide (k ≤ l.length) && good l k)) = none := by
    rw [List.find?_range_eq_none]
    intro j hj
    by_cases h : 1 ≤ j
    · by_cases hl : j ≤ l.length
      · simp [hn j h (by omega) hl]
      · simp [hl]
    · simp [h]
  rw [this]; rfl
theorem vb_high (f : Nat) : ∀ (n i : Nat) (c : UInt8), (vb f n)[i]? = some c → i + 1 < (vb f n).length → 128 ≤ c.toNat := by
  induction f with
  | zero => intro n i c _ h; simp [vb] at h
  | succ f ih =>
    intro n i c hc h
    by_cases hn : n < 128
    · rw [vb_small _ _ hn] at h; simp at h
    · rw [vb_big _ _ hn] at h hc
      cases i with
      | zero =>
        obtain rfl : UInt8.ofNat (128 + n % 128) = c := by simpa using hc
        simp; omega
      | succ i =>
        simp only [List.getElem?_cons_succ, List.length_cons] at hc h
        exact ih _ i c hc (by omega)
theorem vb_low (f : Nat) : ∀ (n i : Nat) (c : UInt8), n < 128 ^ (f + 1) → (vb f n)[i]? = some c → i + 1 = (vb f n).length → c.toNat < 128 := by
  induction f with
  | zero =>
    intro n i c hn hc h
    simp [vb] at h hn hc
    subst h
    obtain rfl : UInt8.ofNat n = c := by simpa using hc
    simp; omega
  | succ f ih =>
    intro n i c hb hc h
    by_cases hn : n < 128
    · rw [vb_small _ _ hn] at h hc
      simp at h
      subst h
      obtain rfl : UInt8.ofNat n = c := by simpa using hc
      simp; omega
    · rw [vb_big _ _ hn] at h hc
      cases i with
      | zero => have := (vb_le f (n / 128)).1; simp only [List.length_cons] at h; omega
      | succ i =>
        simp only [List.getElem?_cons_succ, List.length_cons] at hc h
        exact ih _ i c (by rw [Nat.pow_succ] at hb; omega) hc (by omega)
/-- Where the first k bytes are a varint, the last of them has no high bit and all others have it. -/
theorem good_high (l : List UInt8) (k i : Nat) (c : UInt8) (hk : k ≤ l.length) (hg : good l k = true) (hc : l[i]? = some c) (hi : i + 1 < k) : 128 ≤ c.toNat := by
  have h : vb 6 (val (l.take k)) = l.take k := by simpa [good] using hg
  have hc' : (l.take k)[i]? = some c := by rw [List.getElem?_take_of_lt (by omega)]; exact hc
  rw [← h] at hc'
  exact vb_high 6 _ i c hc' (by rw [h, List.length_take]; omega)
theorem good_low (l : List UInt8) (k i : Nat) (c : UInt8) (hk : k ≤ l.length) (h7 : k ≤ 7) (hg : good l k = true) (hc : l[i]? = some c) (hi : i + 1 = k) : c.toNat < 128 := by
  have h : vb 6 (val (l.take k)) = l.take k := by simpa [good] using hg
  have hc' : (l.take k)[i]? = some c := by rw [List.getElem?_take_of_lt (by omega)]; exact hc
  rw [← h] at hc'
  refine vb_low 6 _ i c ?_ hc' (by rw [h, List.length_take]; omega)
  have := val_take_le l k h7
  have h4 : (128 : Nat) ^ 7 = 562949953421312 := by decide
  show _ < 128 ^ 7
  omega
theorem extract_front (s : ByteArray) (k : Nat) : (s.extract 0 k).toList = s.data.toList.take k := by
  simp [ByteArray.toList_eq, ByteArray.data_extract, Array.toList_extract]
theorem good_eq (s : ByteArray) (k : Nat) : ((vbs (val (s.data.toList.take k))).toList == (s.extract 0 k).toList) = good s.data.toList k := by
  rw [extract_front]
  have : (vbs (val (s.data.toList.take k))).toList = vb 6 (val (s.data.toList.take k)) := ByteArray.toList_mk _
  rw [this]; rfl
theorem u8_and127 (x : Nat) (h : x < 256) : bits .and .u8 (x : Int) 127 = (x : Int) % 128 :=
  bits_mask .u8 8 (by decide) wraps_u8 7 (by decide) _ (by omega) (by omega)
theorem wrap64_small (n : Int) (h0 : 0 ≤ n) (h1 : n < 9223372036854775808) : wrap64 n = n := by unfold wrap64; omega
/-- Or-ing seven bits onto a number below them adds them. -/
theorem or_val (v c j : Nat) (hv : v < 128 ^ j) (hj : j < 7) : bits .or .i64 (v : Int) (wrap64 ((c : Int) % 128 * 2 ^ (7 * j))) = ((v + 128 ^ j * (c % 128) : Nat) : Int) := by
  have hp : (2 : Int) ^ (7 * j) = ((128 ^ j : Nat) : Int) := by rw [Int.pow_mul, Int.natCast_pow]; rfl
  have hm : c % 128 < 128 := Nat.mod_lt _ (by decide)
  have hle : 128 ^ j ≤ 128 ^ 6 := Nat.pow_le_pow_right (by decide) (by omega)
  have h6 : (128 : Nat) ^ 6 = 4398046511104 := by decide
  have hx : 128 ^ j * (c % 128) ≤ 4398046511104 * 127 := Nat.mul_le_mul (by omega) (by omega)
  have e : (c : Int) % 128 * 2 ^ (7 * j) = ((128 ^ j * (c % 128) : Nat) : Int) := by
    rw [hp, Int.natCast_mul, Int.mul_comm]; rfl
  rw [e, wrap64_small _ (by omega) (by omega)]
  have hcomm : ∀ a b : Int, bits .or .i64 a b = bits .or .i64 b a := fun a b => by simp only [bits, BitVec.or_comm]
  rw [hcomm, bits_join .i64 63 (by decide) wraps_i64 (7 * j) _ _ (by omega) ?_ (by omega) (by omega) ?_ (by omega)]
  · rw [← Int.natCast_add, Nat.add_comm]
  · rw [hp, ← Int.natCast_emod, Nat.mul_mod_right]; rfl
  · rw [hp]; omega
/-- The first p bytes all have the high bit. -/
def HighTo (l : List UInt8) (p : Nat) : Prop := ∀ (i : Nat) (c : UInt8), i < p → l[i]? = some c → 128 ≤ c.toNat
theorem HighTo.bad {l : List UInt8} {p j : Nat} (h : HighTo l p) (h1 : 1 ≤ j) (h7 : j ≤ 7) (hj : j ≤ p) (hl : j ≤ l.length) : good l j = false := by
  cases hg : good l j with
  | false => rfl
  | true =>
    exfalso
    have hlt : j - 1 < l.length := by omega
    have hc := List.getElem?_eq_getElem hlt
    have h2 := good_low l j (j - 1) _ hl h7 hg hc (by omega)
    have h3 := h (j - 1) _ (by omega) hc
    omega
theorem HighTo.succ {s : ByteArray} {p : Nat} (h : HighTo s.data.toList p) (hp : p < s.size) (hc : 127 < s[p].toNat) : HighTo s.data.toList (p + 1) := by
  intro i c hi hget
  rcases Nat.lt_or_ge i p with h1 | h1
  · exact h i c h1 hget
  · obtain rfl : i = p := by omega
    have e : s.data.toList[i]? = some s[i] := by rw [List.getElem?_eq_getElem (by rw [len_data]; exact hp)]; rfl
    rw [e] at hget
    obtain rfl : s[i] = c := by simpa using hget
    omega
theorem get_data (s : ByteArray) (p : Nat) (hp : p < s.size) : s.data.toList[p]? = some s[p] := by
  rw [List.getElem?_eq_getElem (by rw [len_data]; exact hp)]; rfl
theorem val_take_lt (l : List UInt8) (k : Nat) : val (l.take k) < 128 ^ k :=
  Nat.lt_of_lt_of_le (val_lt _) (Nat.pow_le_pow_right (by decide) (List.length_take_le _ _))
theorem rvK_high {l : List UInt8} {p : Nat} (h : HighTo l p) (hp : p = 7 ∨ l.length ≤ p) : rvK l = 0 :=
  rvK_none l fun j h1 h7 hl => h.bad h1 h7 (by omega) hl
theorem rvK_hit {l : List UInt8} {p : Nat} (h : HighTo l p) (h7 : p < 7) (hl : p < l.length) (hg : good l (p + 1) = true) : rvK l = p + 1 :=
  rvK_first l (p + 1) (by omega) (by omega) (by omega) hg fun j h1 hj => h.bad h1 (by omega) (by omega) (by omega)
theorem rvK_miss {l : List UInt8} {p : Nat} {c : UInt8} (h : HighTo l p) (hc : l[p]? = some c) (hlow : c.toNat < 128) (hg : good l (p + 1) = false) : rvK l = 0 := by
  refine rvK_none l fun j h1 h7 hl => ?_
  rcases Nat.lt_trichotomy j (p + 1) with hj | hj | hj
  · exact h.bad h1 h7 (by omega) hl
  · rw [hj]; exact hg
  · cases hg' : good l j with
    | false => rfl
    | true =>
      have := good_high l j p c hl hg' hc (by omega)
      omega
theorem rvN_of {l : List UInt8} {k : Nat} (h : rvK l = k) (hk : k ≠ 0) : rvN l = val (l.take k) := by unfold rvN; rw [h, if_neg hk]
theorem rvN_zero {l : List UInt8} (h : rvK l = 0) : rvN l = 0 := by unfold rvN; rw [if_pos h]
end Go.Proofs.YtmglidfnolmcaaaDoor.M
/-
  Plain mathematics of decimal numerals, with no program in sight: the numeral of a number, what reading its digits one by one comes to, and when a numeral of at most nine digits is read.
-/
namespace Go.Proofs.YtmglidfnolmcaaaDoor.M
open Go.RowKit
theorem dec_small {u : Nat} (h : u < 10) : Lib.decDigits u = [UInt8.ofNat (48 + u)] := by rw [Lib.decDigits, dif_pos h]
theorem dec_big {u : Nat} (h : ¬ u < 10) : Lib.decDigits u = Lib.decDigits (u / 10) ++ [UInt8.ofNat (48 + u % 10)] := by rw [Lib.decDigits, dif_neg h]
/-- What a call that writes the numeral of m from its last digit on knows: u is what is left, acc what lies already. -/
def DecAt (m u : Nat) (acc : List UInt8) : Prop := (u = 0 ∧ acc = Lib.decDigits m) ∨ (0 < u ∧ Lib.decDigits u ++ acc = Lib.decDigits m)
theorem DecAt.start {m : Nat} (h : 0 < m) : DecAt m m [] := Or.inr ⟨h, by simp⟩
theorem DecAt.step {m u : Nat} {acc : List UInt8} (h : DecAt m u acc) (hu : 0 < u) : DecAt m (u / 10) (UInt8.ofNat (48 + u % 10) :: acc) := by
  rcases h with ⟨h0, _⟩ | ⟨_, h1⟩
  · omega
  · by_cases hs : u < 10
    · left
      rw [dec_small hs] at h1
      rw [Nat.mod_eq_of_lt hs]
      exact ⟨by omega, by rw [← h1]; rfl⟩
    · right
      rw [dec_big hs] at h1
      exact ⟨by omega, by rw [← h1]; simp⟩
theorem DecAt.stop {m : Nat} {acc : List UInt8} (h : DecAt m 0 acc) : acc = Lib.decDigits m := by
  rcases h with ⟨_, h1⟩ | ⟨h0, _⟩
  · exact h1
  · omega
theorem nDigits_le {u : Nat} (h : u ≤ 9223372036854775808) : Lib.nDigits u ≤ 19 := by
  rcases Nat.lt_or_ge 19 (Lib.nDigits u) with hc | hc
  · exfalso
    have : ∀ k u, 10 ^ k ≤ u → k + 1 ≤ Lib.nDigits u := by
      intro k
      induction k with
      | zero => intro u _; exact Lib.nDigits_pos u
      | succ k ih =>
        intro u hu
        have h10 : ¬ u < 10 := by
          have : 10 ^ 1 ≤ 10 ^ (k + 1) := Nat.pow_le_pow_right (by decide) (by omega)
          omega
        rw [Lib.nDigits_big h10]
        have := ih (u / 10) (by rw [Nat.pow_succ] at hu; omega)
        omega
    have h2 : ∀ k u, u < 10 ^ k → 1 ≤ k → Lib.nDigits u ≤ k := by
      intro k
      induction k with
      | zero => intro u _ h; omega
      | succ k ih =>
        intro u hu _
        by_cases h10 : u < 10
        · rw [Lib.nDigits_small h10]; omega
        · rw [Lib.nDigits_big h10]
          have hk : 1 ≤ k := by
            rcases Nat.eq_zero_or_pos k with h0 | h0
            · subst h0; simp at hu; omega
            · exact h0
          have := ih (u / 10) (by rw [Nat.pow_succ] at hu; omega) hk
          omega
    have := h2 19 u (by omega) (by decide)
    omega
  · exact hc
theorem DecAt.len {m u : Nat} {acc : List UInt8} (h : DecAt m u acc) (hm : m ≤ 9223372036854775808) : acc.length ≤ 19 := by
  have hl : (Lib.decDigits m).length ≤ 19 := by rw [Lib.decDigits_length]; exact nDigits_le hm
  rcases h with ⟨_, h1⟩ | ⟨_, h1⟩
  · rw [h1]; exact hl
  · rw [← h1, List.length_append] at hl; omega
def decs (n : Int) : ByteArray := ⟨(Lib.itoa n).toArray⟩
theorem mod10_neg (u : Nat) : (-(u : Int)).tmod 10 = -((u % 10 : Nat) : Int) := by
  rw [Int.neg_tmod, Int.tmod_eq_emod_of_nonneg (by omega)]; rfl
theorem div10_neg (u : Nat) : (-(u : Int)).tdiv 10 = -((u / 10 : Nat) : Int) := by
  rw [Int.neg_tdiv, Int.tdiv_eq_ediv_of_nonneg (by omega)]; rfl
def accs (acc : List UInt8) : ByteArray := ⟨acc.toArray⟩
theorem d48 (k : Nat) : (48 : UInt8) + UInt8.ofNat k = UInt8.ofNat (48 + k) := by rw [UInt8.ofNat_add]; rfl
theorem accs_size (acc : List UInt8) : (accs acc).size = acc.length := by simp [accs, ByteArray.size]
theorem accs_cons (c : UInt8) (acc : List UInt8) : (⟨#[c]⟩ : ByteArray) ++ accs acc = accs (c :: acc) := ByteArray.mk_append_mk [c] acc
theorem decs_pos {n : Int} (h : 0 ≤ n) (acc : List UInt8) (ha : acc = Lib.decDigits n.toNat) : accs acc = decs n := by
  unfold decs Lib.itoa; rw [if_neg (by omega), ha]; rfl
theorem decs_neg {n : Int} (h : n < 0) (acc : List UInt8) (ha : acc = Lib.decDigits n.natAbs) : accs (45 :: acc) = decs n := by
  unfold decs Lib.itoa; rw [if_pos h, ha]; rfl
end Go.Proofs.YtmglidfnolmcaaaDoor.M
/-
  The exact laws' helpers on rows of strings: comparing two rows, marking a row, checking the marks.
-/
namespace Go.Proofs.YtmglidfnolmcaaaDoor
open Go.RowKit M
set_option linter.unusedVariables false
/-- The text of mark k. -/
def markV (k : Int) : ByteArray := (⟨#[109]⟩ : ByteArray) ++ decs k
theorem mark_byte (u : Nat) : UInt8.ofNat (48 + (u : Int) % 10).toNat = UInt8.ofNat (48 + u % 10) := by congr 1
set_option maxRecDepth 100000 in
set_option maxHeartbeats 400000 in
theorem markText_nat (m : Nat) (w : World) (h0 : 0 < m) (h1 : m ≤ 9223372036854775807) : Calls Tryd.prog 39 #[.int .i64 m] w (Gives (.string (markV m)) w) := by
  have hcv := conv_one
  go_enter Tryd.func39, Tryd.ntmps39
  go_wp2
  go_loopw [0, 3] (fun x o wr => ∃ (u : Nat) (acc : List UInt8), DecAt m u acc ∧ u ≤ m ∧ x = .int .i64 u ∧ o = .string (accs acc) ∧ Below w.heap.size w wr) (fun x _ _ => (intOf x).toNat)
  case atStart => exact ⟨m, [], DecAt.start h0, Nat.le_refl _, rfl, rfl, Below.refl _ _⟩
  case round =>
    obtain ⟨u, acc, hd, hu, rfl, rfl, hb⟩ := hrel
    have hl : (accs acc).size ≤ 19 := by rw [accs_size]; exact hd.len (by omega)
    by_cases hp : 0 < u
    · have hd2 := Lib.hid (hd.step hp)
      go_wp2
      go_roundw
      case rel => exact ⟨u / 10, _, hd2.out, by omega, by go_num, by rw [accs_cons, d48], hb.alloc hb.size _⟩
      case measure => simp [intOf]; omega
    · obtain rfl : u = 0 := by omega
      have HE := Lib.hid (decs_pos (n := (m : Int)) (by omega) acc (by rw [Int.toNat_natCast]; exact hd.stop))
      go_wp2
      go_ret
      exact ⟨ret_str (by rw [HE.out]; rfl), hb⟩
theorem markText_any (k : Int) (w : World) (h0 : 1 ≤ k) (h1 : k ≤ 9223372036854775807) : Calls Tryd.prog 39 #[.int .i64 k] w (Gives (.string (markV k)) w) := by
  obtain ⟨m, rfl⟩ := Int.eq_ofNat_of_zero_le (show 0 ≤ k by omega)
  exact markText_nat m w (by omega) (by omega)
/-- Marks from k on. -/
def marksT (k : Int) (n : Nat) : List ByteArray := (List.range n).map fun j : Nat => markV (k + (j : Int))
theorem marksT_length (k : Int) (n : Nat) : (marksT k n).length = n := by simp [marksT]
theorem marksT_getD (k : Int) (n j : Nat) (h : j < n) : (marksT k n).getD j ⟨#[]⟩ = markV (k + j) := by simp [marksT, List.getD_eq_getElem?_getD, h]
def mpartT (l : List ByteArray) (k : Int) (j : Nat) : List ByteArray := marksT k j ++ l.drop j
theorem mpartT_length (l : List ByteArray) (k : Int) (j : Nat) (h : j ≤ l.length) : (mpartT l k j).length = l.length := by
  simp only [mpartT, List.length_append, marksT_length, List.length_drop]; omega
theorem mpartT_zero (l : List ByteArray) (k : Int) : mpartT l k 0 = l := by simp [mpartT, marksT]
theorem mpartT_all (l : List ByteArray) (k : Int) : mpartT l k l.length = marksT k l.length := by simp [mpartT]
theorem mpartT_set (l : List ByteArray) (k : Int) (j : Nat) (h : j < l.length) : (mpartT l k j).set j (markV (k + j)) = mpartT l k (j + 1) := by
  unfold mpartT
  rw [List.set_append_right _ _ (by rw [marksT_length]; exact Nat.le_refl _), marksT_length, Nat.sub_self, List.drop_eq_getElem_cons h]
  have : marksT k (j + 1) = marksT k j ++ [markV (k + (j : Int))] := by simp [marksT, List.range_succ]
  rw [this, List.set_cons_zero, List.append_assoc]; rfl
theorem OwnT.set {w : World} {base g n cap : Nat} {l : List ByteArray} (h : OwnT w base (.slice (some ⟨g, 0, none⟩) n cap) l) (hn : l.length = n) (j : Nat) (x : ByteArray) :
    OwnT (w.setCell ⟨g, j, none⟩ (.string x)) base (.slice (some ⟨g, 0, none⟩) n cap) (l.set j x) ∧ w.grownBy (w.setCell ⟨g, j, none⟩ (.string x)) (some g) := by
  subst hn
  have hs := World.ownsRow.stored h j (.string x)
  refine ⟨?_, hs.2⟩
  unfold OwnT
  rw [List.length_set, List.map_set]
  exact hs.1
theorem OwnT.frz {w : World} {base g n cap : Nat} {l : List ByteArray} (h : OwnT w base (.slice (some ⟨g, 0, none⟩) n cap) l) (hn : l.length = n) (j : Nat) : w.frozen? ⟨g, j, none⟩ = false := by
  subst hn
  exact World.ownsRow.frozenAt h j
theorem OwnT.cell {w : World} {base g n cap : Nat} {l : List ByteArray} (h : OwnT w base (.slice (some ⟨g, 0, none⟩) n cap) l) (hn : l.length = n) (j : Nat) (hj : j < n) : w.cell? ⟨g, j, none⟩ = some (.string (l.getD j ⟨#[]⟩)) := by
  subst hn
  rw [World.ownsRow.cellAt h j (by omega), List.getElem?_map, List.getElem?_eq_getElem hj, List.getD_eq_getElem?_getD, List.getElem?_eq_getElem hj]
  rfl
def MarkedT (w : World) (base : Nat) (v : Value) (k : Int) (n : Nat) (e : Ending) (w' : World) : Prop := e = .returned (.int .i64 (k + n)) ∧ OwnT w' base v (marksT k n) ∧ w.grownBy w' v.ownBlock
theorem grown_any {w w1 w2 : World} {r : Option Nat} (h : w.grownBy w1 r) (hb : Below w1.heap.size w1 w2) : w.grownBy w2 r :=
  ⟨hb.os.trans h.os, hb.tape.trans h.tape, hb.output.trans h.output, Nat.le_trans h.size hb.size, fun i hi hne => (hb.block i (Nat.lt_of_lt_of_le hi h.size)).trans (h.block i hi hne)⟩
/-- What holds of each world in a statement that draws and calls. -/
def HeldB (w0 : World) (b : Nat) (w : World) : Prop := Below w0.heap.size w0 w ∧ b < w.heap.size
theorem heldB_next {w0 w1 w2 : World} {b i : Nat} {x : Value} (hb : Below w1.heap.size w1 w2) (h : w1.cell? ⟨b, i, none⟩ = some x ∧ HeldB w0 b w1) : w2.cell? ⟨b, i, none⟩ = some x ∧ HeldB w0 b w2 := by
  obtain ⟨h1, h2, h3⟩ := h
  exact ⟨(hb.cell (p := ⟨b, i, none⟩) h3).trans h1, h2.trans (hb.mono h2.size), Nat.lt_of_lt_of_le h3 hb.size⟩
theorem heldB_bel {w0 w : World} {b : Nat} {p : Prop} (h : p ∧ HeldB w0 b w) : Below w0.heap.size w0 w := h.2.1
/-- Two rows of which one was made behind the other lie in two blocks. -/
theorem apart_IT {w w' : World} {b0 B : Nat} {v u : Value} {xs : List Int} {l : List ByteArray} (h : OwnI w b0 v xs) (k : OwnT w' B u l) (hB : w.heap.size ≤ B) : ∀ g, v.ownBlock = some g → u.ownBlock ≠ some g := fun g hg e => by
  obtain ⟨g', hg', _, h2⟩ := h.block
  have := k.base_le g e
  rw [hg'] at hg; injection hg with hg; omega
theorem apart_TI {w w' : World} {b0 B : Nat} {v u : Value} {xs : List Int} {l : List ByteArray} (h : OwnT w b0 v l) (k : OwnI w' B u xs) (hB : w.heap.size ≤ B) : ∀ g, v.ownBlock = some g → u.ownBlock ≠ some g := fun g hg e => by
  obtain ⟨g', hg', h1, _⟩ := k.block
  have := (World.ownsRow.lt h g hg).2
  rw [hg'] at e; injection e with e; omega
theorem OwnT.apart {w w' : World} {b0 B : Nat} {v u : Value} {xs l : List ByteArray} (h : OwnT w b0 v xs) (k : OwnT w' B u l) (hB : w.heap.size ≤ B) : ∀ g, v.ownBlock = some g → u.ownBlock ≠ some g := fun g hg e => by
  have h1 := (World.ownsRow.lt h g hg).2
  have := k.base_le g e
  omega
theorem ne_of {v u : Value} (h : ∀ g, v.ownBlock = some g → u.ownBlock ≠ some g) : v.ownBlock = none ∨ v.ownBlock ≠ u.ownBlock := by
  cases e : v.ownBlock with
  | none => exact Or.inl rfl
  | some g => exact Or.inr fun x => h g e x.symm
theorem ne_sym {v u : Value} (h : ∀ g, v.ownBlock = some g → u.ownBlock ≠ some g) : u.ownBlock = none ∨ u.ownBlock ≠ v.ownBlock := by
  cases e : u.ownBlock with
  | none => exact Or.inl rfl
  | some g => exact Or.inr fun x => h g x.symm e
end Go.Proofs.YtmglidfnolmcaaaDoor
