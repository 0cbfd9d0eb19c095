/-
  Several small texts of this proof, one behind another: each says ahead of itself what it proves.
-/
import Derived.Test.YthfbacaamhkjpaaDoorZa
import Derived.Test.YthfbacaamhkjpaaDoorKeyI
import Derived.Deep.RegionHeld3
/-
  Chapter 5, the program's functions: each answers what the plain words say. They turn nothing that was there.
-/
namespace Go.Proofs.YthfbacaamhkjpaaDoor
open Go.RowKit M
set_option linter.unusedVariables false
theorem isKind_yes (k : Int) (w : World) (h0 : 1 ≤ k) (h1 : k ≤ 3) : Calls Tryd.prog 44 #[.int .i64 k] w (Same w (.bool true)) := by
  go_enter Tryd.func44, Tryd.ntmps44
  go_wp2
  go_ret
  exact ⟨rfl, rfl⟩
theorem isKind_no (k : Int) (w : World) (h : ¬ (1 ≤ k ∧ k ≤ 3)) : Calls Tryd.prog 44 #[.int .i64 k] w (Same w (.bool false)) := by
  by_cases h0 : 1 ≤ k
  · have h1 : decide (k ≤ 3) = false := by rw [decide_eq_false]; omega
    go_enter Tryd.func44, Tryd.ntmps44
    go_wp2
    go_ret
    exact ⟨rfl, rfl⟩
  · have h1 : decide (1 ≤ k) = false := by rw [decide_eq_false]; omega
    go_enter Tryd.func44, Tryd.ntmps44
    go_wp2
    go_ret
    exact ⟨rfl, rfl⟩
theorem isValue_yes (k : Int) (w : World) (h0 : 0 ≤ k) (h1 : k ≤ 65535) : Calls Tryd.prog 63 #[.int .i64 k] w (Same w (.bool true)) := by
  go_enter Tryd.func63, Tryd.ntmps63
  go_wp2
  go_ret
  exact ⟨rfl, rfl⟩
theorem isValue_no (k : Int) (w : World) (h : ¬ (0 ≤ k ∧ k ≤ 65535)) : Calls Tryd.prog 63 #[.int .i64 k] w (Same w (.bool false)) := by
  by_cases h0 : 0 ≤ k
  · have h1 : decide (k ≤ 65535) = false := by rw [decide_eq_false]; omega
    go_enter Tryd.func63, Tryd.ntmps63
    go_wp2
    go_ret
    exact ⟨rfl, rfl⟩
  · have h1 : decide (0 ≤ k) = false := by rw [decide_eq_false]; omega
    go_enter Tryd.func63, Tryd.ntmps63
    go_wp2
    go_ret
    exact ⟨rfl, rfl⟩
theorem isStamp_yes (k : Int) (w : World) (h0 : 1 ≤ k) (h1 : k ≤ 65535) : Calls Tryd.prog 45 #[.int .i64 k] w (Same w (.bool true)) := by
  go_enter Tryd.func45, Tryd.ntmps45
  go_wp2
  go_ret
  exact ⟨rfl, rfl⟩
theorem isStamp_no (k : Int) (w : World) (h : ¬ (1 ≤ k ∧ k ≤ 65535)) : Calls Tryd.prog 45 #[.int .i64 k] w (Same w (.bool false)) := by
  by_cases h0 : 1 ≤ k
  · have h1 : decide (k ≤ 65535) = false := by rw [decide_eq_false]; omega
    go_enter Tryd.func45, Tryd.ntmps45
    go_wp2
    go_ret
    exact ⟨rfl, rfl⟩
  · have h1 : decide (1 ≤ k) = false := by rw [decide_eq_false]; omega
    go_enter Tryd.func45, Tryd.ntmps45
    go_wp2
    go_ret
    exact ⟨rfl, rfl⟩
theorem iUnpackGauge_same (w : World) (n : Int) (h0 : -9223372036854775808 ≤ n) (h1 : n ≤ 9223372036854775807) :
    Calls Tryd.prog 25 #[.int .i64 n] w (Same w (.tuple #[.int .i64 (ungA n), .int .i64 (ungV n)])) := by
  by_cases hn : 0 ≤ n
  · by_cases h : 65536 ≤ n ∧ n ≤ 4294967295
    · have E := Lib.hid (show ungA n = n / 65536 from if_pos h)
      have E2 := Lib.hid (show ungV n = n % 65536 from if_pos h)
      have d1 : 1 ≤ n / 65536 := by omega
      have d2 : n / 65536 ≤ 65535 := by omega
      go_enter Tryd.func25, Tryd.ntmps25
      go_wp2_with (go_at_call 45; refine (isStamp_yes _ _ d1 d2).mono ?_; rintro e w' ⟨rfl, rfl⟩)
      go_ret2
      exact ⟨ret_ii E.out.symm E2.out.symm, rfl⟩
    · have E := Lib.hid (show ungA n = 0 from if_neg h)
      have E2 := Lib.hid (show ungV n = 0 from if_neg h)
      have d : ¬ (1 ≤ n / 65536 ∧ n / 65536 ≤ 65535) := by omega
      go_enter Tryd.func25, Tryd.ntmps25
      go_wp2_with (go_at_call 45; refine (isStamp_no _ _ d).mono ?_; rintro e w' ⟨rfl, rfl⟩)
      go_ret2
      exact ⟨ret_ii E.out.symm E2.out.symm, rfl⟩
  · have E := Lib.hid (show ungA n = 0 from if_neg (by omega))
    have E2 := Lib.hid (show ungV n = 0 from if_neg (by omega))
    have hq : n.tdiv 65536 ≤ 0 := by
      have := Int.tdiv_nonneg (a := -n) (b := 65536) (by omega) (by omega)
      rw [Int.neg_tdiv] at this; omega
    have d : ¬ (1 ≤ n.tdiv 65536 ∧ n.tdiv 65536 ≤ 65535) := by omega
    clear hq
    go_enter Tryd.func25, Tryd.ntmps25
    go_wp2_with (go_at_call 45; refine (isStamp_no _ _ d).mono ?_; rintro e w' ⟨rfl, rfl⟩)
    go_ret2
    exact ⟨ret_ii E.out.symm E2.out.symm, rfl⟩
theorem iUnpackGauge_any (w : World) (n : Int) (h0 : -9223372036854775808 ≤ n) (h1 : n ≤ 9223372036854775807) : Calls Tryd.prog 25 #[.int .i64 n] w (Gives (.tuple #[.int .i64 (ungA n), .int .i64 (ungV n)]) w) := same_gives (iUnpackGauge_same w n h0 h1)
end Go.Proofs.YthfbacaamhkjpaaDoor
/-
  Chapter 4, the program's UnpackKey: the key that a number has, or none. It makes new memory and turns none that was there.
-/
namespace Go.Proofs.YthfbacaamhkjpaaDoor
open Go.RowKit M
set_option linter.unusedVariables false
/-- The four bytes of a number; none where it has more, or is negative. -/
def four (n : Int) : ByteArray := if 0 ≤ n ∧ n ≤ 4294967295 then fxs n.toNat 4 else ⟨#[]⟩
theorem iFx4 (n : Int) (w : World) (h0 : -9223372036854775808 ≤ n) (h1 : n ≤ 9223372036854775807) :
    Calls Tryd.prog 60 #[.int .i64 n, .int .i64 4] w (Gives (.string (four n)) w) := by
  by_cases h : 0 ≤ n
  · obtain ⟨m, rfl⟩ := Int.eq_ofNat_of_zero_le h
    by_cases k : 256 ^ 4 ≤ m
    · have e : four (m : Int) = ⟨#[]⟩ := if_neg (by omega)
      rw [e]
      exact (iFx_big m 4 w (by omega) (by decide) (by decide) k).mono fun _ _ q => gives_same q
    · have e : four (m : Int) = fxs m 4 := if_pos (by omega)
      rw [e]
      exact (iFx_good m 4 w (by omega) (by decide) (by decide) k).mono fun _ _ q => q
  · have e : four n = ⟨#[]⟩ := if_neg (by omega)
    rw [e]
    exact (iFx_bad n 4 w (by omega)).mono fun _ _ q => gives_same q
theorem u8_zero (m : Nat) : (UInt8.ofNat m == 0) = decide (m % 256 = 0) := by
  by_cases h : m % 256 = 0
  · rw [decide_eq_true h, beq_iff_eq]
    apply UInt8.toNat_inj.1
    simpa using h
  · rw [decide_eq_false h, beq_eq_false_iff_ne]
    intro e
    apply h
    have := congrArg UInt8.toNat e
    simpa using this
theorem trim_fx {n : Nat} (h : n ≤ 4294967295) : Lib.trimLeftB (fx n 4) 0 = fx n (nbV n) := by
  have hd : n / 256 ^ 3 = n / 16777216 ∧ n / 256 ^ 2 = n / 65536 ∧ n / 256 ^ 1 = n / 256 ∧ n / 256 ^ 0 = n := ⟨rfl, rfl, rfl, by simp⟩
  by_cases h0 : n = 0
  · subst h0; decide
  · by_cases h1 : n < 256
    · rw [nb_1 (by omega)]
      have a3 : decide (dv n 3 % 256 = 0) = true := decide_eq_true (by unfold dv; omega)
      have a2 : decide (dv n 2 % 256 = 0) = true := decide_eq_true (by unfold dv; omega)
      have a1 : decide (dv n 1 % 256 = 0) = true := decide_eq_true (by unfold dv; omega)
      have a0 : decide (dv n 0 % 256 = 0) = false := decide_eq_false (by unfold dv; omega)
      simp [fx, Lib.trimLeftB, List.dropWhile, u8_zero, a3, a2, a1, a0, -decide_eq_true_eq, -decide_eq_false_iff_not]
    · by_cases h2 : n < 65536
      · rw [nb_2 (by omega)]
        have a3 : decide (dv n 3 % 256 = 0) = true := decide_eq_true (by unfold dv; omega)
        have a2 : decide (dv n 2 % 256 = 0) = true := decide_eq_true (by unfold dv; omega)
        have a1 : decide (dv n 1 % 256 = 0) = false := decide_eq_false (by unfold dv; omega)
        simp [fx, Lib.trimLeftB, List.dropWhile, u8_zero, a3, a2, a1, -decide_eq_true_eq, -decide_eq_false_iff_not]
      · by_cases h3 : n < 16777216
        · rw [nb_3 (by omega)]
          have a3 : decide (dv n 3 % 256 = 0) = true := decide_eq_true (by unfold dv; omega)
          have a2 : decide (dv n 2 % 256 = 0) = false := decide_eq_false (by unfold dv; omega)
          simp [fx, Lib.trimLeftB, List.dropWhile, u8_zero, a3, a2, -decide_eq_true_eq, -decide_eq_false_iff_not]
        · rw [nb_4 (by omega)]
          have a3 : decide (dv n 3 % 256 = 0) = false := decide_eq_false (by unfold dv; omega)
          simp [fx, Lib.trimLeftB, u8_zero, a3, -decide_eq_true_eq, -decide_eq_false_iff_not]
/-- What stands behind the zeros. -/
def bare (n : Int) : ByteArray := ⟨(Lib.trimLeftB (four n).data.toList 0).toArray⟩
theorem bare_in {n : Int} (h : 0 ≤ n ∧ n ≤ 4294967295) : bare n = unb n.toNat := by
  have e : four n = fxs n.toNat 4 := if_pos h
  have t := trim_fx (n := n.toNat) (by omega)
  unfold bare
  rw [e, show (fxs n.toNat 4).data.toList = fx n.toNat 4 from rfl, t]
  rfl
theorem bare_out {n : Int} (h : ¬ (0 ≤ n ∧ n ≤ 4294967295)) : bare n = ⟨#[]⟩ := by
  have e : four n = ⟨#[]⟩ := if_neg h
  unfold bare; rw [e]; rfl
theorem bare_size (n : Int) : (bare n).size ≤ 4 := by
  by_cases h : 0 ≤ n ∧ n ≤ 4294967295
  · rw [bare_in h, unb_size]; exact nbV_le _
  · rw [bare_out h]; exact Nat.zero_le _
theorem key_empty : keyOkV ⟨#[]⟩ = false := by decide
theorem unV_bare (n : Int) : unV n = if keyOkV (bare n) = true then some (bare n) else none := by
  by_cases h : 1 ≤ n ∧ n ≤ 4294967295
  · rw [bare_in (by omega)]; exact if_pos h
  · have e : unV n = none := if_neg h
    by_cases h' : 0 ≤ n ∧ n ≤ 4294967295
    · obtain rfl : n = 0 := by omega
      rw [e, bare_in h']
      rfl
    · rw [e, bare_out h', key_empty]; rfl
set_option maxRecDepth 100000 in
theorem iUnpack_any (w : World) (n : Int) (h0 : -9223372036854775808 ≤ n) (h1 : n ≤ 9223372036854775807) :
    Calls Tryd.prog 43 #[.int .i64 n] w (Gives (unT (unV n)) w) := by
  have HF := Lib.hid (iFx4 n w h0 h1)
  have HT := fun W => Lib.hid (Tryd.strings_TrimLeft_one (four n) 0 (by decide) W)
  have hs : (bare n).size ≤ maxLen := by have := bare_size n; unfold maxLen; omega
  have HK := fun W => Lib.hid (iKeyOk_same W (bare n) hs)
  have E := Lib.hid (unV_bare n)
  have HB := Lib.hid (show (⟨(Lib.trimLeftB (four n).data.toList 0).toArray⟩ : ByteArray) = bare n from rfl)
  rw [HB.out] at HT
  clear HB hs
  generalize bare n = s at *
  generalize four n = f at *
  cases hk : keyOkV s with
  | false =>
    rw [hk] at HK
    rw [if_neg (by rw [hk]; simp)] at E
    clear hk
    go_enter Tryd.func43, Tryd.ntmps43
    go_wp2_with fail
    refine HF.out.mono ?_
    rintro e w1 ⟨rfl, hb1⟩
    go_wp2_with fail
    refine (HT w1).out.mono ?_
    rintro e w2 ⟨rfl, rfl⟩
    go_wp2_with fail
    refine (HK _).out.mono ?_
    rintro e w3 ⟨rfl, rfl⟩
    go_wp2_with fail
    go_ret2
    exact ⟨by rw [E.out]; rfl, hb1⟩
  | true =>
    rw [hk] at HK
    rw [if_pos hk] at E
    clear hk
    go_enter Tryd.func43, Tryd.ntmps43
    go_wp2_with fail
    refine HF.out.mono ?_
    rintro e w1 ⟨rfl, hb1⟩
    go_wp2_with fail
    refine (HT w1).out.mono ?_
    rintro e w2 ⟨rfl, rfl⟩
    go_wp2_with fail
    refine (HK _).out.mono ?_
    rintro e w3 ⟨rfl, rfl⟩
    go_wp2_with fail
    go_ret2
    exact ⟨by rw [E.out]; rfl, hb1⟩
end Go.Proofs.YthfbacaamhkjpaaDoor
/-
  Chapter 5, the program's Untag: the key and the kind of a number, or none. It makes new memory and turns none that was there.
-/
namespace Go.Proofs.YthfbacaamhkjpaaDoor
open Go.RowKit M
set_option linter.unusedVariables false
theorem untagV_pos {n : Int} (h : 0 ≤ n) : untagV n = (match unV (n / 4) with | some s => if 1 ≤ n % 4 then some (s, n % 4) else none | none => none) := by
  by_cases hn : 1 ≤ n ∧ n ≤ 17179869183
  · exact if_pos hn
  · have e : unV (n / 4) = none := if_neg (by omega)
    rw [e]
    exact if_neg hn
theorem unV_low {n : Int} (h : n ≤ 0) : unV n = none := if_neg (by omega)
set_option maxRecDepth 100000 in
theorem iUntag_any (w : World) (n : Int) (h0 : -9223372036854775808 ≤ n) (h1 : n ≤ 9223372036854775807) :
    Calls Tryd.prog 23 #[.int .i64 n] w (Gives (untT (untagV n)) w) := by
  by_cases hn : 0 ≤ n
  · have E := untagV_pos hn
    have HU := Lib.hid (iUnpack_any w (n / 4) (by omega) (by omega))
    have m0 : 0 ≤ n % 4 := by omega
    have m3 : n % 4 ≤ 3 := by omega
    cases hu : unV (n / 4) with
    | none =>
      rw [hu] at E
      rw [hu, unT_none] at HU
      have HE := Lib.hid E
      clear hu E
      go_enter Tryd.func23, Tryd.ntmps23
      go_wp2_with (go_at_call 43; refine HU.out.mono ?_; rintro e w2 ⟨rfl, hb⟩)
      go_ret2
      exact ⟨by rw [HE.out]; rfl, hb⟩
    | some s =>
      rw [hu] at E
      rw [hu, unT_some] at HU
      simp only at E
      by_cases hr : 1 ≤ n % 4
      · rw [if_pos hr] at E
        have HE := Lib.hid E
        clear hu E
        go_enter Tryd.func23, Tryd.ntmps23
        go_wp2_with (first | (go_at_call 43; refine HU.out.mono ?_; rintro e w2 ⟨rfl, hb⟩) | (go_at_call 44; refine (isKind_yes _ _ (by omega) (by omega)).mono ?_; rintro e w' ⟨rfl, rfl⟩))
        go_ret2
        exact ⟨by rw [HE.out]; rfl, hb⟩
      · rw [if_neg hr] at E
        have HE := Lib.hid E
        clear hu E
        go_enter Tryd.func23, Tryd.ntmps23
        go_wp2_with (first | (go_at_call 43; refine HU.out.mono ?_; rintro e w2 ⟨rfl, hb⟩) | (go_at_call 44; refine (isKind_no _ _ (by omega)).mono ?_; rintro e w' ⟨rfl, rfl⟩))
        go_ret2
        exact ⟨by rw [HE.out]; rfl, hb⟩
  · have E := Lib.hid (show untagV n = none from if_neg (by omega))
    have hq : n.tdiv 4 ≤ 0 := by
      have := Int.tdiv_nonneg (a := -n) (b := 4) (by omega) (by omega)
      rw [Int.neg_tdiv] at this; omega
    have hq2 : -9223372036854775808 ≤ n.tdiv 4 := by
      have : (-n).tdiv 4 = (-n) / 4 := Int.tdiv_eq_ediv_of_nonneg (by omega)
      rw [Int.neg_tdiv] at this; omega
    have HU := Lib.hid (iUnpack_any w (n.tdiv 4) hq2 (by omega))
    rw [unV_low hq, unT_none] at HU
    clear hq
    go_enter Tryd.func23, Tryd.ntmps23
    go_wp2_with (go_at_call 43; refine HU.out.mono ?_; rintro e w2 ⟨rfl, hb⟩)
    go_ret2
    exact ⟨by rw [E.out]; rfl, hb⟩
end Go.Proofs.YthfbacaamhkjpaaDoor
/-
  The exact laws' helpers on rows of strings: comparing two rows, marking a row, checking the marks.
-/
namespace Go.Proofs.YthfbacaamhkjpaaDoor
open Go.RowKit M
set_option linter.unusedVariables false
/-- The text of mark k. -/
def markV (k : Int) : ByteArray := (⟨#[109]⟩ : ByteArray) ++ decs k
theorem mark_byte (u : Nat) : UInt8.ofNat (48 + (u : Int) % 10).toNat = UInt8.ofNat (48 + u % 10) := by congr 1
set_option maxRecDepth 100000 in
set_option maxHeartbeats 400000 in
theorem markText_nat (m : Nat) (w : World) (h0 : 0 < m) (h1 : m ≤ 9223372036854775807) : Calls Tryd.prog 38 #[.int .i64 m] w (Gives (.string (markV m)) w) := by
  have hcv := conv_one
  go_enter Tryd.func38, Tryd.ntmps38
  go_wp2
  go_loopw [0, 3] (fun x o wr => ∃ (u : Nat) (acc : List UInt8), DecAt m u acc ∧ u ≤ m ∧ x = .int .i64 u ∧ o = .string (accs acc) ∧ Below w.heap.size w wr) (fun x _ _ => (intOf x).toNat)
  case atStart => exact ⟨m, [], DecAt.start h0, Nat.le_refl _, rfl, rfl, Below.refl _ _⟩
  case round =>
    obtain ⟨u, acc, hd, hu, rfl, rfl, hb⟩ := hrel
    have hl : (accs acc).size ≤ 19 := by rw [accs_size]; exact hd.len (by omega)
    by_cases hp : 0 < u
    · have hd2 := Lib.hid (hd.step hp)
      go_wp2
      go_roundw
      case rel => exact ⟨u / 10, _, hd2.out, by omega, by go_num, by rw [accs_cons, d48], hb.alloc hb.size _⟩
      case measure => simp [intOf]; omega
    · obtain rfl : u = 0 := by omega
      have HE := Lib.hid (decs_pos (n := (m : Int)) (by omega) acc (by rw [Int.toNat_natCast]; exact hd.stop))
      go_wp2
      go_ret
      exact ⟨ret_str (by rw [HE.out]; rfl), hb⟩
theorem markText_any (k : Int) (w : World) (h0 : 1 ≤ k) (h1 : k ≤ 9223372036854775807) : Calls Tryd.prog 38 #[.int .i64 k] w (Gives (.string (markV k)) w) := by
  obtain ⟨m, rfl⟩ := Int.eq_ofNat_of_zero_le (show 0 ≤ k by omega)
  exact markText_nat m w (by omega) (by omega)
/-- Marks from k on. -/
def marksT (k : Int) (n : Nat) : List ByteArray := (List.range n).map fun j : Nat => markV (k + (j : Int))
theorem marksT_length (k : Int) (n : Nat) : (marksT k n).length = n := by simp [marksT]
theorem marksT_getD (k : Int) (n j : Nat) (h : j < n) : (marksT k n).getD j ⟨#[]⟩ = markV (k + j) := by simp [marksT, List.getD_eq_getElem?_getD, h]
def mpartT (l : List ByteArray) (k : Int) (j : Nat) : List ByteArray := marksT k j ++ l.drop j
theorem mpartT_length (l : List ByteArray) (k : Int) (j : Nat) (h : j ≤ l.length) : (mpartT l k j).length = l.length := by
  simp only [mpartT, List.length_append, marksT_length, List.length_drop]; omega
theorem mpartT_zero (l : List ByteArray) (k : Int) : mpartT l k 0 = l := by simp [mpartT, marksT]
theorem mpartT_all (l : List ByteArray) (k : Int) : mpartT l k l.length = marksT k l.length := by simp [mpartT]
theorem mpartT_set (l : List ByteArray) (k : Int) (j : Nat) (h : j < l.length) : (mpartT l k j).set j (markV (k + j)) = mpartT l k (j + 1) := by
  unfold mpartT
  rw [List.set_append_right _ _ (by rw [marksT_length]; exact Nat.le_refl _), marksT_length, Nat.sub_self, List.drop_eq_getElem_cons h]
  have : marksT k (j + 1) = marksT k j ++ [markV (k + (j : Int))] := by simp [marksT, List.range_succ]
  rw [this, List.set_cons_zero, List.append_assoc]; rfl
theorem OwnT.set {w : World} {base g n cap : Nat} {l : List ByteArray} (h : OwnT w base (.slice (some ⟨g, 0, none⟩) n cap) l) (hn : l.length = n) (j : Nat) (x : ByteArray) :
    OwnT (w.setCell ⟨g, j, none⟩ (.string x)) base (.slice (some ⟨g, 0, none⟩) n cap) (l.set j x) ∧ w.grownBy (w.setCell ⟨g, j, none⟩ (.string x)) (some g) := by
  subst hn
  have hs := World.ownsRow.stored h j (.string x)
  refine ⟨?_, hs.2⟩
  unfold OwnT
  rw [List.length_set, List.map_set]
  exact hs.1
theorem OwnT.frz {w : World} {base g n cap : Nat} {l : List ByteArray} (h : OwnT w base (.slice (some ⟨g, 0, none⟩) n cap) l) (hn : l.length = n) (j : Nat) : w.frozen? ⟨g, j, none⟩ = false := by
  subst hn
  exact World.ownsRow.frozenAt h j
theorem OwnT.cell {w : World} {base g n cap : Nat} {l : List ByteArray} (h : OwnT w base (.slice (some ⟨g, 0, none⟩) n cap) l) (hn : l.length = n) (j : Nat) (hj : j < n) : w.cell? ⟨g, j, none⟩ = some (.string (l.getD j ⟨#[]⟩)) := by
  subst hn
  rw [World.ownsRow.cellAt h j (by omega), List.getElem?_map, List.getElem?_eq_getElem hj, List.getD_eq_getElem?_getD, List.getElem?_eq_getElem hj]
  rfl
def MarkedT (w : World) (base : Nat) (v : Value) (k : Int) (n : Nat) (e : Ending) (w' : World) : Prop := e = .returned (.int .i64 (k + n)) ∧ OwnT w' base v (marksT k n) ∧ w.grownBy w' v.ownBlock
theorem grown_any {w w1 w2 : World} {r : Option Nat} (h : w.grownBy w1 r) (hb : Below w1.heap.size w1 w2) : w.grownBy w2 r :=
  ⟨hb.os.trans h.os, hb.tape.trans h.tape, hb.output.trans h.output, Nat.le_trans h.size hb.size, fun i hi hne => (hb.block i (Nat.lt_of_lt_of_le hi h.size)).trans (h.block i hi hne)⟩
/-- What holds of each world in a statement that draws and calls. -/
def HeldB (w0 : World) (b : Nat) (w : World) : Prop := Below w0.heap.size w0 w ∧ b < w.heap.size
theorem heldB_next {w0 w1 w2 : World} {b i : Nat} {x : Value} (hb : Below w1.heap.size w1 w2) (h : w1.cell? ⟨b, i, none⟩ = some x ∧ HeldB w0 b w1) : w2.cell? ⟨b, i, none⟩ = some x ∧ HeldB w0 b w2 := by
  obtain ⟨h1, h2, h3⟩ := h
  exact ⟨(hb.cell (p := ⟨b, i, none⟩) h3).trans h1, h2.trans (hb.mono h2.size), Nat.lt_of_lt_of_le h3 hb.size⟩
theorem heldB_bel {w0 w : World} {b : Nat} {p : Prop} (h : p ∧ HeldB w0 b w) : Below w0.heap.size w0 w := h.2.1
/-- Two rows of which one was made behind the other lie in two blocks. -/
theorem apart_IT {w w' : World} {b0 B : Nat} {v u : Value} {xs : List Int} {l : List ByteArray} (h : OwnI w b0 v xs) (k : OwnT w' B u l) (hB : w.heap.size ≤ B) : ∀ g, v.ownBlock = some g → u.ownBlock ≠ some g := fun g hg e => by
  obtain ⟨g', hg', _, h2⟩ := h.block
  have := k.base_le g e
  rw [hg'] at hg; injection hg with hg; omega
theorem apart_TI {w w' : World} {b0 B : Nat} {v u : Value} {xs : List Int} {l : List ByteArray} (h : OwnT w b0 v l) (k : OwnI w' B u xs) (hB : w.heap.size ≤ B) : ∀ g, v.ownBlock = some g → u.ownBlock ≠ some g := fun g hg e => by
  obtain ⟨g', hg', h1, _⟩ := k.block
  have := (World.ownsRow.lt h g hg).2
  rw [hg'] at e; injection e with e; omega
theorem OwnT.apart {w w' : World} {b0 B : Nat} {v u : Value} {xs l : List ByteArray} (h : OwnT w b0 v xs) (k : OwnT w' B u l) (hB : w.heap.size ≤ B) : ∀ g, v.ownBlock = some g → u.ownBlock ≠ some g := fun g hg e => by
  have h1 := (World.ownsRow.lt h g hg).2
  have := k.base_le g e
  omega
theorem ne_of {v u : Value} (h : ∀ g, v.ownBlock = some g → u.ownBlock ≠ some g) : v.ownBlock = none ∨ v.ownBlock ≠ u.ownBlock := by
  cases e : v.ownBlock with
  | none => exact Or.inl rfl
  | some g => exact Or.inr fun x => h g e x.symm
theorem ne_sym {v u : Value} (h : ∀ g, v.ownBlock = some g → u.ownBlock ≠ some g) : u.ownBlock = none ∨ u.ownBlock ≠ v.ownBlock := by
  cases e : u.ownBlock with
  | none => exact Or.inl rfl
  | some g => exact Or.inr fun x => h g x.symm e
end Go.Proofs.YthfbacaamhkjpaaDoor
