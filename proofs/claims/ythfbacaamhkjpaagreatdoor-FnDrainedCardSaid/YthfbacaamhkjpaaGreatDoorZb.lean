/-
  Several small texts of this proof, one behind another: each says ahead of itself what it proves.
-/
import Derived.Test.YthfbacaamhkjpaaGreatDoorZa
import Derived.Test.YthfbacaamhkjpaaGreatDoorKeyI
import Derived.ChangeOld
import Derived.Test.YthfbacaamhkjpaaGreatDoorRowM
import Derived.Test.YthfbacaamhkjpaaGreatDoorNowS
import Derived.Deep.RegionWith
import Derived.Deep.CutRange
/-
  Chapter 5, the program's functions: each answers what the plain words say. They turn nothing that was there.
-/
namespace Go.Proofs.YthfbacaamhkjpaaGreatDoor
open Go.RowKit M
set_option linter.unusedVariables false
theorem isKind_yes (k : Int) (w : World) (h0 : 1 ≤ k) (h1 : k ≤ 3) : Calls Tryz.prog 60 #[.int .i64 k] w (Same w (.bool true)) := by
  go_enter Tryz.func60, Tryz.ntmps60
  go_wp2
  go_ret
  exact ⟨rfl, rfl⟩
theorem isKind_no (k : Int) (w : World) (h : ¬ (1 ≤ k ∧ k ≤ 3)) : Calls Tryz.prog 60 #[.int .i64 k] w (Same w (.bool false)) := by
  by_cases h0 : 1 ≤ k
  · have h1 : decide (k ≤ 3) = false := by rw [decide_eq_false]; omega
    go_enter Tryz.func60, Tryz.ntmps60
    go_wp2
    go_ret
    exact ⟨rfl, rfl⟩
  · have h1 : decide (1 ≤ k) = false := by rw [decide_eq_false]; omega
    go_enter Tryz.func60, Tryz.ntmps60
    go_wp2
    go_ret
    exact ⟨rfl, rfl⟩
theorem isValue_yes (k : Int) (w : World) (h0 : 0 ≤ k) (h1 : k ≤ 65535) : Calls Tryz.prog 80 #[.int .i64 k] w (Same w (.bool true)) := by
  go_enter Tryz.func80, Tryz.ntmps80
  go_wp2
  go_ret
  exact ⟨rfl, rfl⟩
theorem isValue_no (k : Int) (w : World) (h : ¬ (0 ≤ k ∧ k ≤ 65535)) : Calls Tryz.prog 80 #[.int .i64 k] w (Same w (.bool false)) := by
  by_cases h0 : 0 ≤ k
  · have h1 : decide (k ≤ 65535) = false := by rw [decide_eq_false]; omega
    go_enter Tryz.func80, Tryz.ntmps80
    go_wp2
    go_ret
    exact ⟨rfl, rfl⟩
  · have h1 : decide (0 ≤ k) = false := by rw [decide_eq_false]; omega
    go_enter Tryz.func80, Tryz.ntmps80
    go_wp2
    go_ret
    exact ⟨rfl, rfl⟩
theorem isStamp_yes (k : Int) (w : World) (h0 : 1 ≤ k) (h1 : k ≤ 65535) : Calls Tryz.prog 61 #[.int .i64 k] w (Same w (.bool true)) := by
  go_enter Tryz.func61, Tryz.ntmps61
  go_wp2
  go_ret
  exact ⟨rfl, rfl⟩
theorem isStamp_no (k : Int) (w : World) (h : ¬ (1 ≤ k ∧ k ≤ 65535)) : Calls Tryz.prog 61 #[.int .i64 k] w (Same w (.bool false)) := by
  by_cases h0 : 1 ≤ k
  · have h1 : decide (k ≤ 65535) = false := by rw [decide_eq_false]; omega
    go_enter Tryz.func61, Tryz.ntmps61
    go_wp2
    go_ret
    exact ⟨rfl, rfl⟩
  · have h1 : decide (1 ≤ k) = false := by rw [decide_eq_false]; omega
    go_enter Tryz.func61, Tryz.ntmps61
    go_wp2
    go_ret
    exact ⟨rfl, rfl⟩
theorem iUnpackGauge_same (w : World) (n : Int) (h0 : -9223372036854775808 ≤ n) (h1 : n ≤ 9223372036854775807) :
    Calls Tryz.prog 38 #[.int .i64 n] w (Same w (.tuple #[.int .i64 (ungA n), .int .i64 (ungV n)])) := by
  by_cases hn : 0 ≤ n
  · by_cases h : 65536 ≤ n ∧ n ≤ 4294967295
    · have E := Lib.hid (show ungA n = n / 65536 from if_pos h)
      have E2 := Lib.hid (show ungV n = n % 65536 from if_pos h)
      have d1 : 1 ≤ n / 65536 := by omega
      have d2 : n / 65536 ≤ 65535 := by omega
      go_enter Tryz.func38, Tryz.ntmps38
      go_wp2_with (go_at_call 61; refine (isStamp_yes _ _ d1 d2).mono ?_; rintro e w' ⟨rfl, rfl⟩)
      go_ret2
      exact ⟨ret_ii E.out.symm E2.out.symm, rfl⟩
    · have E := Lib.hid (show ungA n = 0 from if_neg h)
      have E2 := Lib.hid (show ungV n = 0 from if_neg h)
      have d : ¬ (1 ≤ n / 65536 ∧ n / 65536 ≤ 65535) := by omega
      go_enter Tryz.func38, Tryz.ntmps38
      go_wp2_with (go_at_call 61; refine (isStamp_no _ _ d).mono ?_; rintro e w' ⟨rfl, rfl⟩)
      go_ret2
      exact ⟨ret_ii E.out.symm E2.out.symm, rfl⟩
  · have E := Lib.hid (show ungA n = 0 from if_neg (by omega))
    have E2 := Lib.hid (show ungV n = 0 from if_neg (by omega))
    have hq : n.tdiv 65536 ≤ 0 := by
      have := Int.tdiv_nonneg (a := -n) (b := 65536) (by omega) (by omega)
      rw [Int.neg_tdiv] at this; omega
    have d : ¬ (1 ≤ n.tdiv 65536 ∧ n.tdiv 65536 ≤ 65535) := by omega
    clear hq
    go_enter Tryz.func38, Tryz.ntmps38
    go_wp2_with (go_at_call 61; refine (isStamp_no _ _ d).mono ?_; rintro e w' ⟨rfl, rfl⟩)
    go_ret2
    exact ⟨ret_ii E.out.symm E2.out.symm, rfl⟩
theorem iUnpackGauge_any (w : World) (n : Int) (h0 : -9223372036854775808 ≤ n) (h1 : n ≤ 9223372036854775807) : Calls Tryz.prog 38 #[.int .i64 n] w (Gives (.tuple #[.int .i64 (ungA n), .int .i64 (ungV n)]) w) := same_gives (iUnpackGauge_same w n h0 h1)
end Go.Proofs.YthfbacaamhkjpaaGreatDoor
/-
  Chapter 4, the program's UnpackKey: the key that a number has, or none. It makes new memory and turns none that was there.
-/
namespace Go.Proofs.YthfbacaamhkjpaaGreatDoor
open Go.RowKit M
set_option linter.unusedVariables false
/-- The four bytes of a number; none where it has more, or is negative. -/
def four (n : Int) : ByteArray := if 0 ≤ n ∧ n ≤ 4294967295 then fxs n.toNat 4 else ⟨#[]⟩
theorem iFx4 (n : Int) (w : World) (h0 : -9223372036854775808 ≤ n) (h1 : n ≤ 9223372036854775807) :
    Calls Tryz.prog 77 #[.int .i64 n, .int .i64 4] w (Gives (.string (four n)) w) := by
  by_cases h : 0 ≤ n
  · obtain ⟨m, rfl⟩ := Int.eq_ofNat_of_zero_le h
    by_cases k : 256 ^ 4 ≤ m
    · have e : four (m : Int) = ⟨#[]⟩ := if_neg (by omega)
      rw [e]
      exact (iFx_big m 4 w (by omega) (by decide) (by decide) k).mono fun _ _ q => gives_same q
    · have e : four (m : Int) = fxs m 4 := if_pos (by omega)
      rw [e]
      exact (iFx_good m 4 w (by omega) (by decide) (by decide) k).mono fun _ _ q => q
  · have e : four n = ⟨#[]⟩ := if_neg (by omega)
    rw [e]
    exact (iFx_bad n 4 w (by omega)).mono fun _ _ q => gives_same q
theorem u8_zero (m : Nat) : (UInt8.ofNat m == 0) = decide (m % 256 = 0) := by
  by_cases h : m % 256 = 0
  · rw [decide_eq_true h, beq_iff_eq]
    apply UInt8.toNat_inj.1
    simpa using h
  · rw [decide_eq_false h, beq_eq_false_iff_ne]
    intro e
    apply h
    have := congrArg UInt8.toNat e
    simpa using this
theorem trim_fx {n : Nat} (h : n ≤ 4294967295) : Lib.trimLeftB (fx n 4) 0 = fx n (nbV n) := by
  have hd : n / 256 ^ 3 = n / 16777216 ∧ n / 256 ^ 2 = n / 65536 ∧ n / 256 ^ 1 = n / 256 ∧ n / 256 ^ 0 = n := ⟨rfl, rfl, rfl, by simp⟩
  by_cases h0 : n = 0
  · subst h0; decide
  · by_cases h1 : n < 256
    · rw [nb_1 (by omega)]
      have a3 : decide (dv n 3 % 256 = 0) = true := decide_eq_true (by unfold dv; omega)
      have a2 : decide (dv n 2 % 256 = 0) = true := decide_eq_true (by unfold dv; omega)
      have a1 : decide (dv n 1 % 256 = 0) = true := decide_eq_true (by unfold dv; omega)
      have a0 : decide (dv n 0 % 256 = 0) = false := decide_eq_false (by unfold dv; omega)
      simp [fx, Lib.trimLeftB, List.dropWhile, u8_zero, a3, a2, a1, a0, -decide_eq_true_eq, -decide_eq_false_iff_not]
    · by_cases h2 : n < 65536
      · rw [nb_2 (by omega)]
        have a3 : decide (dv n 3 % 256 = 0) = true := decide_eq_true (by unfold dv; omega)
        have a2 : decide (dv n 2 % 256 = 0) = true := decide_eq_true (by unfold dv; omega)
        have a1 : decide (dv n 1 % 256 = 0) = false := decide_eq_false (by unfold dv; omega)
        simp [fx, Lib.trimLeftB, List.dropWhile, u8_zero, a3, a2, a1, -decide_eq_true_eq, -decide_eq_false_iff_not]
      · by_cases h3 : n < 16777216
        · rw [nb_3 (by omega)]
          have a3 : decide (dv n 3 % 256 = 0) = true := decide_eq_true (by unfold dv; omega)
          have a2 : decide (dv n 2 % 256 = 0) = false := decide_eq_false (by unfold dv; omega)
          simp [fx, Lib.trimLeftB, List.dropWhile, u8_zero, a3, a2, -decide_eq_true_eq, -decide_eq_false_iff_not]
        · rw [nb_4 (by omega)]
          have a3 : decide (dv n 3 % 256 = 0) = false := decide_eq_false (by unfold dv; omega)
          simp [fx, Lib.trimLeftB, u8_zero, a3, -decide_eq_true_eq, -decide_eq_false_iff_not]
/-- What stands behind the zeros. -/
def bare (n : Int) : ByteArray := ⟨(Lib.trimLeftB (four n).data.toList 0).toArray⟩
theorem bare_in {n : Int} (h : 0 ≤ n ∧ n ≤ 4294967295) : bare n = unb n.toNat := by
  have e : four n = fxs n.toNat 4 := if_pos h
  have t := trim_fx (n := n.toNat) (by omega)
  unfold bare
  rw [e, show (fxs n.toNat 4).data.toList = fx n.toNat 4 from rfl, t]
  rfl
theorem bare_out {n : Int} (h : ¬ (0 ≤ n ∧ n ≤ 4294967295)) : bare n = ⟨#[]⟩ := by
  have e : four n = ⟨#[]⟩ := if_neg h
  unfold bare; rw [e]; rfl
theorem bare_size (n : Int) : (bare n).size ≤ 4 := by
  by_cases h : 0 ≤ n ∧ n ≤ 4294967295
  · rw [bare_in h, unb_size]; exact nbV_le _
  · rw [bare_out h]; exact Nat.zero_le _
theorem key_empty : keyOkV ⟨#[]⟩ = false := by decide
theorem unV_bare (n : Int) : unV n = if keyOkV (bare n) = true then some (bare n) else none := by
  by_cases h : 1 ≤ n ∧ n ≤ 4294967295
  · rw [bare_in (by omega)]; exact if_pos h
  · have e : unV n = none := if_neg h
    by_cases h' : 0 ≤ n ∧ n ≤ 4294967295
    · obtain rfl : n = 0 := by omega
      rw [e, bare_in h']
      rfl
    · rw [e, bare_out h', key_empty]; rfl
set_option maxRecDepth 100000 in
theorem iUnpack_any (w : World) (n : Int) (h0 : -9223372036854775808 ≤ n) (h1 : n ≤ 9223372036854775807) :
    Calls Tryz.prog 59 #[.int .i64 n] w (Gives (unT (unV n)) w) := by
  have HF := Lib.hid (iFx4 n w h0 h1)
  have HT := fun W => Lib.hid (Tryz.strings_TrimLeft_one (four n) 0 (by decide) W)
  have hs : (bare n).size ≤ maxLen := by have := bare_size n; unfold maxLen; omega
  have HK := fun W => Lib.hid (iKeyOk_same W (bare n) hs)
  have E := Lib.hid (unV_bare n)
  have HB := Lib.hid (show (⟨(Lib.trimLeftB (four n).data.toList 0).toArray⟩ : ByteArray) = bare n from rfl)
  rw [HB.out] at HT
  clear HB hs
  generalize bare n = s at *
  generalize four n = f at *
  cases hk : keyOkV s with
  | false =>
    rw [hk] at HK
    rw [if_neg (by rw [hk]; simp)] at E
    clear hk
    go_enter Tryz.func59, Tryz.ntmps59
    go_wp2_with fail
    refine HF.out.mono ?_
    rintro e w1 ⟨rfl, hb1⟩
    go_wp2_with fail
    refine (HT w1).out.mono ?_
    rintro e w2 ⟨rfl, rfl⟩
    go_wp2_with fail
    refine (HK _).out.mono ?_
    rintro e w3 ⟨rfl, rfl⟩
    go_wp2_with fail
    go_ret2
    exact ⟨by rw [E.out]; rfl, hb1⟩
  | true =>
    rw [hk] at HK
    rw [if_pos hk] at E
    clear hk
    go_enter Tryz.func59, Tryz.ntmps59
    go_wp2_with fail
    refine HF.out.mono ?_
    rintro e w1 ⟨rfl, hb1⟩
    go_wp2_with fail
    refine (HT w1).out.mono ?_
    rintro e w2 ⟨rfl, rfl⟩
    go_wp2_with fail
    refine (HK _).out.mono ?_
    rintro e w3 ⟨rfl, rfl⟩
    go_wp2_with fail
    go_ret2
    exact ⟨by rw [E.out]; rfl, hb1⟩
end Go.Proofs.YthfbacaamhkjpaaGreatDoor
/-
  Chapter 5, the program's Untag: the key and the kind of a number, or none. It makes new memory and turns none that was there.
-/
namespace Go.Proofs.YthfbacaamhkjpaaGreatDoor
open Go.RowKit M
set_option linter.unusedVariables false
theorem untagV_pos {n : Int} (h : 0 ≤ n) : untagV n = (match unV (n / 4) with | some s => if 1 ≤ n % 4 then some (s, n % 4) else none | none => none) := by
  by_cases hn : 1 ≤ n ∧ n ≤ 17179869183
  · exact if_pos hn
  · have e : unV (n / 4) = none := if_neg (by omega)
    rw [e]
    exact if_neg hn
theorem unV_low {n : Int} (h : n ≤ 0) : unV n = none := if_neg (by omega)
set_option maxRecDepth 100000 in
theorem iUntag_any (w : World) (n : Int) (h0 : -9223372036854775808 ≤ n) (h1 : n ≤ 9223372036854775807) :
    Calls Tryz.prog 36 #[.int .i64 n] w (Gives (untT (untagV n)) w) := by
  by_cases hn : 0 ≤ n
  · have E := untagV_pos hn
    have HU := Lib.hid (iUnpack_any w (n / 4) (by omega) (by omega))
    have m0 : 0 ≤ n % 4 := by omega
    have m3 : n % 4 ≤ 3 := by omega
    cases hu : unV (n / 4) with
    | none =>
      rw [hu] at E
      rw [hu, unT_none] at HU
      have HE := Lib.hid E
      clear hu E
      go_enter Tryz.func36, Tryz.ntmps36
      go_wp2_with (go_at_call 59; refine HU.out.mono ?_; rintro e w2 ⟨rfl, hb⟩)
      go_ret2
      exact ⟨by rw [HE.out]; rfl, hb⟩
    | some s =>
      rw [hu] at E
      rw [hu, unT_some] at HU
      simp only at E
      by_cases hr : 1 ≤ n % 4
      · rw [if_pos hr] at E
        have HE := Lib.hid E
        clear hu E
        go_enter Tryz.func36, Tryz.ntmps36
        go_wp2_with (first | (go_at_call 59; refine HU.out.mono ?_; rintro e w2 ⟨rfl, hb⟩) | (go_at_call 60; refine (isKind_yes _ _ (by omega) (by omega)).mono ?_; rintro e w' ⟨rfl, rfl⟩))
        go_ret2
        exact ⟨by rw [HE.out]; rfl, hb⟩
      · rw [if_neg hr] at E
        have HE := Lib.hid E
        clear hu E
        go_enter Tryz.func36, Tryz.ntmps36
        go_wp2_with (first | (go_at_call 59; refine HU.out.mono ?_; rintro e w2 ⟨rfl, hb⟩) | (go_at_call 60; refine (isKind_no _ _ (by omega)).mono ?_; rintro e w' ⟨rfl, rfl⟩))
        go_ret2
        exact ⟨by rw [HE.out]; rfl, hb⟩
  · have E := Lib.hid (show untagV n = none from if_neg (by omega))
    have hq : n.tdiv 4 ≤ 0 := by
      have := Int.tdiv_nonneg (a := -n) (b := 4) (by omega) (by omega)
      rw [Int.neg_tdiv] at this; omega
    have hq2 : -9223372036854775808 ≤ n.tdiv 4 := by
      have : (-n).tdiv 4 = (-n) / 4 := Int.tdiv_eq_ediv_of_nonneg (by omega)
      rw [Int.neg_tdiv] at this; omega
    have HU := Lib.hid (iUnpack_any w (n.tdiv 4) hq2 (by omega))
    rw [unV_low hq, unT_none] at HU
    clear hq
    go_enter Tryz.func36, Tryz.ntmps36
    go_wp2_with (go_at_call 59; refine HU.out.mono ?_; rintro e w2 ⟨rfl, hb⟩)
    go_ret2
    exact ⟨by rw [E.out]; rfl, hb⟩
end Go.Proofs.YthfbacaamhkjpaaGreatDoor
/-
  A cursor made new over a code: its first state follows from the code alone; nothing that was there is turned.
-/
namespace Go.Proofs.YthfbacaamhkjpaaGreatDoor
open Go.RowKit M
set_option linter.unusedVariables false
def newHto (K : Code) : Nat → Int
  | 0 => 10101 + (K.len : Int)
  | j + 1 => (newHto K j * 131 + K.zs.getD j 0 + 7) % 1073741824
def newS (K : Code) : St := (0, newHto K (min K.len 4000))
theorem newHto_bd (K : Code) (h : K.len ≤ 1048576) (j : Nat) : 0 ≤ newHto K j ∧ newHto K j < 1073741824 := by
  cases j with
  | zero => simp only [newHto]; omega
  | succ j => simp only [newHto]; omega
theorem i64_and30 (n : Int) : bits .and .i64 n 1073741823 = n % 1073741824 := by
  have h30 : (BitVec.ofInt 64 1073741823).toNat = 2 ^ 30 - 1 := by decide
  have key : (BitVec.ofInt 64 n &&& BitVec.ofInt 64 1073741823).toNat = (n % ((2 ^ 64 : Nat) : Int)).toNat % 2 ^ 30 := by
    rw [BitVec.toNat_and, BitVec.toNat_ofInt, h30, Nat.and_two_pow_sub_one_eq_mod]
  show IntKind.i64.wrap ((BitVec.ofInt 64 n &&& BitVec.ofInt 64 1073741823).toNat : Nat) = n % 1073741824
  rw [key, IntKind.wrap_i64]
  omega
def NewPost (w : World) (K : Code) (e : Ending) (w' : World) : Prop := ∃ g, e = .returned (.pointer (some ⟨g, 0, none⟩)) ∧ w.heap.size ≤ g ∧ Cur w' g K (newS K) ∧ Below w.heap.size w w'
theorem new_done (w : World) (K : Code) (hk : CodeIn w K) (j : Nat) (hj : j = min K.len 4000) :
    NewPost w K (.returned (.pointer (some ⟨w.heap.size, 0, none⟩))) (w.alloc (.cells #[.slice K.A K.len K.cap, .int .i64 0, .int .i64 (newHto K j)] 61)) := by
  subst hj
  refine ⟨w.heap.size, rfl, Nat.le_refl _, ⟨heap_alloc_new w _, ⟨hk.1, fun hp => ?_⟩, Nat.zero_le _⟩, (Below.refl _ _).alloc (Nat.le_refl _) _⟩
  obtain ⟨b, off, e, hb, hc⟩ := hk.2 hp
  exact ⟨b, off, e, by omega, fun j hj => ⟨(((Below.refl w.heap.size w).alloc (Nat.le_refl _) _).cell (p := ⟨b, off + j, none⟩) hb).trans (hc j hj).1, (hc j hj).2⟩⟩
set_option maxRecDepth 100000 in
theorem new_any (w : World) (K : Code) (hk : CodeIn w K) (hl : K.len ≤ 1048576) :
    Calls Tryz.prog 19 #[.slice K.A K.len K.cap] w (NewPost w K) := by
  have HK := Lib.hid hk
  clear hk
  go_enter Tryz.func19, Tryz.ntmps19
  go_wp2
  go_loop [3, 4] (fun h i => ∃ j : Nat, j ≤ K.len ∧ j ≤ 4000 ∧ i = .int .i64 j ∧ h = .int .i64 (newHto K j)) (fun _ i => 4000 - (intOf i).toNat)
  case atStart => exact ⟨0, Nat.zero_le _, Nat.zero_le _, rfl, rfl⟩
  case round =>
    obtain ⟨j, hj, hj4, rfl, rfl⟩ := hrel
    by_cases hlt : j < K.len
    · have hd : decide (j < K.len) = true := by simp; omega
      by_cases h4 : j < 4000
      · have hd4 : decide ((j : Int) < 4000) = true := by simp; omega
        obtain ⟨b, off, hA, hb, hcell⟩ := HK.out.2 (by omega)
        obtain ⟨hz, hz0, hz1⟩ := hcell j hlt
        obtain ⟨n0, n1⟩ := newHto_bd K hl j
        have HN := Lib.hid (show newHto K (j + 1) = (newHto K j * 131 + K.zs.getD j 0 + 7) % 1073741824 from rfl)
        have ha := i64_and30 (newHto K j * 131 + K.zs.getD j 0 + 7)
        rw [hA]
        generalize K.zs.getD j 0 = z at *
        clear hcell
        go_wp2
        go_round
        case rel => exact ⟨j + 1, by omega, by omega, by go_num, by rw [HN.out]⟩
        case measure => simp [intOf]; omega
      · have hd4 : decide ((j : Int) < 4000) = false := by simp; omega
        have HE := Lib.hid (show j = min K.len 4000 by omega)
        go_wp2
        go_ret
        exact new_done w K HK.out j HE.out
    · have hd : decide (j < K.len) = false := by simp; omega
      have HE := Lib.hid (show j = min K.len 4000 by omega)
      go_wp2
      go_ret
      exact new_done w K HK.out j HE.out
end Go.Proofs.YthfbacaamhkjpaaGreatDoor
/-
  Drawing, told in less: some number within its bounds, some truth value; nothing but the cursor's block is turned.
-/
namespace Go.Proofs.YthfbacaamhkjpaaGreatDoor
open Go.RowKit M
set_option linter.unusedVariables false
def SomeI (w : World) (g : Nat) (K : Code) (P : Int → Prop) (e : Ending) (w' : World) : Prop := ∃ x s, P x ∧ e = .returned (.int .i64 x) ∧ Cur w' g K s ∧ w.grownBy w' (some g)
def SomeB (w : World) (g : Nat) (K : Code) (e : Ending) (w' : World) : Prop := ∃ b s, e = .returned (.bool b) ∧ Cur w' g K s ∧ w.grownBy w' (some g)
theorem below_some (w : World) (g : Nat) (K : Code) (n : Int) (s : St) (c : Cur w g K s) (h0 : 0 < n) (h1 : n ≤ 4611686018427387904) :
    Calls Tryz.prog 41 #[.pointer (some ⟨g, 0, none⟩), .int .i64 n] w (SomeI w g K fun x => 0 ≤ x ∧ x < n) :=
  (below_any w g K n s c h1).mono fun _ _ ⟨a, b, d⟩ => ⟨_, _, belowV_bd K n s h0, a, b, d⟩
theorem once_some (w : World) (g : Nat) (K : Code) (n : Int) (s : St) (c : Cur w g K s) (h1 : n ≤ 4611686018427387904) :
    Calls Tryz.prog 64 #[.pointer (some ⟨g, 0, none⟩), .int .i64 n] w (SomeB w g K) :=
  (once_any w g K n s c h1).mono fun _ _ ⟨a, b, d⟩ => ⟨_, _, a, b, d⟩
theorem row_cells (w : World) (ls : List Int) (cs : Array Value) (h : cs = (ls.map (Value.int .i64)).toArray) : ∀ j, j < ls.length → (w.alloc (.cells cs 3)).cell? ⟨w.heap.size, j, none⟩ = some (.int .i64 (ls.getD j 0)) := by
  subst h
  intro j hj
  have e := heap_alloc_new w (.cells (ls.map (Value.int .i64)).toArray 3)
  rw [cell_of_row _ _ j _ _ _ e, List.getElem?_toArray, List.getElem?_map, List.getElem?_eq_getElem hj, List.getD_eq_getElem?_getD, List.getElem?_eq_getElem hj]
  rfl
theorem pick_some (w : World) (g : Nat) (K : Code) (s : St) (c : Cur w g K s) (ls : List Int) (n : Nat) (hn : ls.length = n) (hn0 : 0 < n) (hn1 : n ≤ 1000000) (cs : Array Value) (hcs : cs = (ls.map (Value.int .i64)).toArray) :
    Calls Tryz.prog 42 #[.pointer (some ⟨g, 0, none⟩), .slice (some ⟨w.heap.size, 0, none⟩) n n] (w.alloc (.cells cs 3)) (SomeI w g K fun x => x ∈ ls) := by
  refine (pick_any (w.alloc (.cells cs 3)) g K s (c.alloc _) w.heap.size (by have := c.lt; omega) ls n hn hn0 hn1 (by rw [← hn]; exact row_cells w ls cs hcs)).mono ?_
  rintro e w' ⟨rfl, h1, h2⟩
  have hb := belowV_bd K n s (by omega)
  refine ⟨_, _, ?_, rfl, h1, grown_trans (World.grownBy_alloc _ _ _) h2⟩
  rw [List.getD_eq_getElem?_getD, List.getElem?_eq_getElem (by omega)]
  exact List.getElem_mem _
/-- The code lies below base. -/
def CodeB (K : Code) (base : Nat) : Prop := ∀ a, 0 < K.len → K.A = some a → a.block < base
theorem CodeB.of_in {w : World} {K : Code} (h : CodeIn w K) : CodeB K w.heap.size := by
  intro a hp ha
  obtain ⟨b, off, e, hb, _⟩ := h.2 hp
  rw [e] at ha
  cases ha
  exact hb
theorem CodeB.mono {K : Code} {b b' : Nat} (h : CodeB K b) (hb : b ≤ b') : CodeB K b' := fun a hp ha => Nat.lt_of_lt_of_le (h a hp ha) hb
theorem Cur.setNew {w : World} {g base ga : Nat} {K : Code} {s : St} (c : Cur w g K s) (hK : CodeB K base) (hg : g < base) (hga : base ≤ ga) (j : Nat) (x : Value) : Cur (w.setCell ⟨ga, j, none⟩ x) g K s := by
  obtain ⟨h1, h2, h3⟩ := c
  refine ⟨(Below.heap_setCell w ⟨ga, j, none⟩ x g (show g ≠ ga by omega)).trans h1, ⟨h2.1, fun hp => ?_⟩, h3⟩
  obtain ⟨b, off, e, hb, hc⟩ := h2.2 hp
  have hlt := hK _ hp e
  exact ⟨b, off, e, hb, fun i hi => ⟨(World.cell?_of_block (w := w) (a := ⟨b, off + i, none⟩) (Below.heap_setCell w ⟨ga, j, none⟩ x b (show b ≠ ga by simp at hlt; omega))).trans (hc i hi).1, (hc i hi).2⟩⟩
theorem grown_setNew {w u : World} {g ga : Nat} (h : w.grownBy u (some g)) (hga : w.heap.size ≤ ga) (j : Nat) (x : Value) : w.grownBy (u.setCell ⟨ga, j, none⟩ x) (some g) :=
  ⟨h.os, h.tape, h.output, by simp [World.setCell]; exact h.size, fun k hk hne => (Below.heap_setCell u ⟨ga, j, none⟩ x k (show k ≠ ga by omega)).trans (h.block k hk hne)⟩
/-- A row in a block from base on. -/
def RowN (w : World) (base : Nat) (v : Value) (zs : List Int) : Prop := Ints w v zs ∧ ∃ b, v.ownBlock = some b ∧ base ≤ b
theorem OwnI.rowN {w : World} {base : Nat} {v : Value} {zs : List Int} (h : OwnI w base v zs) : RowN w base v zs := by
  obtain ⟨g, e, h1, _⟩ := h.block
  exact ⟨h.ints, g, e, h1⟩
theorem Ints.kept {w w' : World} {v : Value} {zs : List Int} {g : Nat} (h : Ints w v zs) (hg : w.grownBy w' (some g)) (hne : v.ownBlock ≠ some g) : Ints w' v zs := by
  obtain ⟨b, off, cap, rfl, h1, h2, h3, h4⟩ := h
  exact ⟨b, off, cap, rfl, h1, h2, Nat.lt_of_lt_of_le h3 hg.size, fun j hj => hg.cell (h4 j hj) (fun e => hne e)⟩
theorem RowN.kept {w w' : World} {base : Nat} {v : Value} {zs : List Int} {g : Nat} (h : RowN w base v zs) (hg : w.grownBy w' (some g)) (hb : g < base) : RowN w' base v zs := by
  obtain ⟨h1, b, e, h2⟩ := h
  refine ⟨h1.kept hg (by rw [e]; intro h; injection h with h; omega), b, e, h2⟩
end Go.Proofs.YthfbacaamhkjpaaGreatDoor
/-
  Drawing a text of a list, told in less: some text of the list; nothing but the cursor's block is turned. A draw behind a new cursor, told of the world ahead of it.
-/
namespace Go.Proofs.YthfbacaamhkjpaaGreatDoor
open Go.RowKit M
set_option linter.unusedVariables false
def SomeT (w : World) (g : Nat) (K : Code) (P : ByteArray → Prop) (e : Ending) (w' : World) : Prop := ∃ x s, P x ∧ e = .returned (.string x) ∧ Cur w' g K s ∧ w.grownBy w' (some g)
theorem rowT_cells (w : World) (ls : List ByteArray) (cs : Array Value) (h : cs = (ls.map Value.string).toArray) : ∀ j, j < ls.length → (w.alloc (.cells cs 9)).cell? ⟨w.heap.size, j, none⟩ = some (.string (ls.getD j ⟨#[]⟩)) := by
  subst h
  intro j hj
  have e := heap_alloc_new w (.cells (ls.map Value.string).toArray 9)
  rw [cell_of_row _ _ j _ _ _ e, List.getElem?_toArray, List.getElem?_map, List.getElem?_eq_getElem hj, List.getD_eq_getElem?_getD, List.getElem?_eq_getElem hj]
  rfl
theorem pickT_at (w : World) (g : Nat) (K : Code) (s : St) (c : Cur w g K s) (b : Nat) (hb : b ≠ g) (ls : List ByteArray) (n : Nat) (hn : ls.length = n) (hn0 : 0 < n) (hn1 : n ≤ 1000000)
    (hc : ∀ j, j < n → w.cell? ⟨b, j, none⟩ = some (.string (ls.getD j ⟨#[]⟩))) :
    Calls Tryz.prog 101 #[.pointer (some ⟨g, 0, none⟩), .slice (some ⟨b, 0, none⟩) n n] w (SomeT w g K fun x => x ∈ ls) := by
  have HB := Lib.hid (below_any w g K n s c (by omega))
  obtain ⟨v0, v1⟩ := belowV_bd K n s (by omega)
  generalize belowV K n s = v at *
  obtain ⟨m, rfl⟩ := Int.eq_ofNat_of_zero_le v0
  have hm : m < n := by omega
  have HC := Lib.hid (hc m hm)
  have HM := Lib.hid (show ls.getD m ⟨#[]⟩ ∈ ls by rw [List.getD_eq_getElem?_getD, List.getElem?_eq_getElem (by omega)]; exact List.getElem_mem _)
  have hne : some (Addr.mk b m none).block ≠ some g := by intro h; exact hb (by injection h)
  generalize ls.getD m ⟨#[]⟩ = x at *
  clear c hc
  go_enter Tryz.func101, Tryz.ntmps101
  go_wp2_with fail
  refine HB.out.mono ?_
  rintro e w1 ⟨rfl, hc1, hg1⟩
  have hcell := hg1.cell HC.out hne
  have C1 := Lib.hid hc1
  have G1 := Lib.hid hg1
  clear hc1 hg1
  go_wp2_with fail
  go_ret
  exact ⟨x, _, HM.out, rfl, C1.out, G1.out⟩
theorem pickT_some (w : World) (g : Nat) (K : Code) (s : St) (c : Cur w g K s) (ls : List ByteArray) (n : Nat) (hn : ls.length = n) (hn0 : 0 < n) (hn1 : n ≤ 1000000) (cs : Array Value) (hcs : cs = (ls.map Value.string).toArray) :
    Calls Tryz.prog 101 #[.pointer (some ⟨g, 0, none⟩), .slice (some ⟨w.heap.size, 0, none⟩) n n] (w.alloc (.cells cs 9)) (SomeT w g K fun x => x ∈ ls) := by
  refine (pickT_at (w.alloc (.cells cs 9)) g K s (c.alloc _) w.heap.size (by have := c.lt; omega) ls n hn hn0 hn1 (by rw [← hn]; exact rowT_cells w ls cs hcs)).mono ?_
  rintro e w' ⟨x, s', h1, h2, h3, h4⟩
  exact ⟨x, s', h1, h2, h3, grown_trans (World.grownBy_alloc _ _ _) h4⟩
theorem behind {w w1 w2 : World} {g : Nat} (hg : w.heap.size ≤ g) (h1 : Below w.heap.size w w1) (h2 : w1.grownBy w2 (some g)) : Below w.heap.size w w2 :=
  h1.grown h2 h1.size (by intro k hk; injection hk with hk; omega)
end Go.Proofs.YthfbacaamhkjpaaGreatDoor
/-
  Drawing keys, told in less: some text of at most four (five) bytes, some number.
-/
namespace Go.Proofs.YthfbacaamhkjpaaGreatDoor
open Go.RowKit M
set_option linter.unusedVariables false
theorem all_size {ls : List ByteArray} {n : Nat} (h : (ls.all fun x => decide (x.size ≤ n)) = true) {x : ByteArray} (hx : x ∈ ls) : x.size ≤ n := by
  have := List.all_eq_true.1 h x hx
  simpa using this
theorem l4Key_some (w : World) (g : Nat) (K : Code) (s : St) (c : Cur w g K s) : Calls Tryz.prog 82 #[.pointer (some ⟨g, 0, none⟩)] w (SomeT w g K fun x => x.size ≤ 4) := by
  have HC := Lib.hid c
  clear c
  go_enter Tryz.func82, Tryz.ntmps82
  go_wp2_with fail
  refine (pickT_some w g K s HC.out [⟨#[97]⟩, ⟨#[98]⟩, ⟨#[99, 112, 117]⟩, ⟨#[114, 101, 113]⟩, ⟨#[120, 95, 49]⟩, ⟨#[90, 57]⟩, ⟨#[109, 101, 109]⟩, ⟨#[113]⟩] 8 rfl (by decide) (by decide) _ rfl).mono ?_
  rintro e w1 ⟨x, s1, hx, rfl, hc1, hg1⟩
  have X := Lib.hid (all_size (n := 4) (by decide) hx)
  have C1 := Lib.hid hc1
  have G1 := Lib.hid hg1
  clear hx hc1 hg1
  go_wp2_with fail
  go_ret
  exact ⟨x, s1, X.out, rfl, C1.out, G1.out⟩
end Go.Proofs.YthfbacaamhkjpaaGreatDoor
/-
  Drawing cells, a place in them and a number: some cells, some place, some number; nothing that was there is turned but the cursor.
-/
namespace Go.Proofs.YthfbacaamhkjpaaGreatDoor
open Go.RowKit M
set_option linter.unusedVariables false
def CellsAt (w : World) (g : Nat) (K : Code) (i : Value) (wr : World) : Prop :=
  ∃ (m : Nat) (s : St) (zs : List Int), m ≤ 11 ∧ i = .int .i64 m ∧ zs.length = 71 ∧ OwnI wr w.heap.size (.slice (some ⟨w.heap.size, 0, none⟩) 71 71) zs ∧ Cur wr g K s ∧ w.grownBy wr (some g)
def CellsD (w : World) (g : Nat) (K : Code) (e : Ending) (w' : World) : Prop := ∃ v zs s, e = .returned v ∧ RowN w' w.heap.size v zs ∧ zs.length ≤ 71 ∧ Cur w' g K s ∧ w.grownBy w' (some g)
theorem own_new {w u u' : World} {g : Nat} {zs : List Int} (h : OwnI u w.heap.size (.slice (some ⟨w.heap.size, 0, none⟩) 71 71) zs) (hg : u.grownBy u' (some g)) (hlt : g < w.heap.size) : OwnI u' w.heap.size (.slice (some ⟨w.heap.size, 0, none⟩) 71 71) zs :=
  h.kept hg (by show some w.heap.size ≠ some g; intro e; injection e with e; omega)
theorem cells_set {w u : World} {g : Nat} {K : Code} {s : St} {zs : List Int} (hl : zs.length = 71) (ho : OwnI u w.heap.size (.slice (some ⟨w.heap.size, 0, none⟩) 71 71) zs) (hc : Cur u g K s) (hg : w.grownBy u (some g)) (hK : CodeB K w.heap.size) (hlt : g < w.heap.size) (j : Nat) (z : Int) :
    (zs.set j z).length = 71 ∧ OwnI (u.setCell ⟨w.heap.size, j, none⟩ (.int .i64 z)) w.heap.size (.slice (some ⟨w.heap.size, 0, none⟩) 71 71) (zs.set j z) ∧ Cur (u.setCell ⟨w.heap.size, j, none⟩ (.int .i64 z)) g K s ∧ w.grownBy (u.setCell ⟨w.heap.size, j, none⟩ (.int .i64 z)) (some g) :=
  ⟨by simpa using hl, (ho.set j z).1, hc.setNew hK hlt (Nat.le_refl _) j _, grown_setNew hg (Nat.le_refl _) j _⟩
theorem cells_cut {w u : World} {zs : List Int} (hl : zs.length = 71) (ho : OwnI u w.heap.size (.slice (some ⟨w.heap.size, 0, none⟩) 71 71) zs) : RowN u w.heap.size (.slice (some ⟨w.heap.size, 0, none⟩) 70 71) (zs.take 70) := by
  obtain ⟨b, off, cap, e, h1, h2, h3, h4⟩ := ho.ints
  injection e with ea en ec
  injection ea with ea
  injection ea with eb eo
  subst eb eo ec
  refine ⟨⟨w.heap.size, 0, 71, by simp [hl], by simp; omega, h2, h3, fun j hj => ?_⟩, w.heap.size, rfl, Nat.le_refl _⟩
  have hj' : j < 70 := by simp at hj; omega
  rw [h4 j (by omega)]
  simp [List.getD_eq_getElem?_getD, hj']
set_option maxRecDepth 100000 in
set_option maxHeartbeats 1000000 in
theorem cells_some (w : World) (g : Nat) (K : Code) (s : St) (c : Cur w g K s) (hK : CodeB K w.heap.size) :
    Calls Tryz.prog 43 #[.pointer (some ⟨g, 0, none⟩)] w (CellsD w g K) := by
  obtain ⟨i0, hi, hz0, hz1, hz2⟩ := info_parts info_int
  have hlt := c.lt
  have HC := Lib.hid c
  clear c
  go_enter Tryz.func43, Tryz.ntmps43
  go_wp2_with (refine wpList_make_full _ rfl _ _ 24 rfl w.heap.size 3 i0 (.int .i64 0) 1 Tryz.underlying24 hi hz0 hz1 .i64 .i64 _ _ 71 rfl rfl rfl rfl ?m1 ?m2 ?m3 ?_; rotate_left 3; intro w1 hown hg; have HO := Lib.hid (OwnI.made hown); have HG := Lib.hid hg; clear hown hg)
  case m1 => rw [hz2]; omega
  case m2 => unfold maxLen; omega
  case m3 => exact Nat.le_refl _
  clear hi hz0 hz1 hz2
  refine (below_some w1 g K _ s (HC.out.kept HG.out) (by decide) (by decide)).mono ?_
  rintro e w2 ⟨x, s1, ⟨x0, x1⟩, rfl, hc1, hg1⟩
  obtain ⟨m0, rfl⟩ := Int.eq_ofNat_of_zero_le x0
  have HS : Hid (CellsAt w g K (.int .i64 m0) w2) := Lib.hid ⟨m0, s1, _, by omega, rfl, List.length_replicate, own_new HO.out hg1 hlt, hc1, grown_trans ⟨HG.out.os, HG.out.tape, HG.out.output, HG.out.size, fun k hk _ => HG.out.block k hk (by intro h; cases h)⟩ hg1⟩
  clear hc1 hg1 x0
  go_wp2_with fail
  go_loopw [4] (fun i wr => CellsAt w g K i wr) (fun i _ => (intOf i).toNat)
  case atStart => exact HS.out
  case round =>
    obtain ⟨m, s, zs, hm, rfl, hl, ho, hc, hg⟩ := hrel
    have HL := Lib.hid hl
    clear hl
    by_cases hp : 0 < m
    · obtain ⟨k, rfl⟩ : ∃ k, m = k + 1 := ⟨m - 1, by omega⟩
      have O := Lib.hid ho
      have G := Lib.hid hg
      have C := Lib.hid hc
      clear ho hg hc
      go_wp2_with fail
      refine (below_some wr g K _ s C.out (by decide) (by decide)).mono ?_
      rintro e u1 ⟨x, s1, ⟨y0, y1⟩, rfl, hc1, hg1⟩
      obtain ⟨j, rfl⟩ := Int.eq_ofNat_of_zero_le y0
      have hj : j < 71 := by omega
      have O1 := Lib.hid (own_new O.out hg1 hlt)
      have G1 := Lib.hid (grown_trans G.out hg1)
      have C1 := Lib.hid hc1
      clear hc1 hg1 y0 y1
      go_wp2_with fail
      refine (below_some u1 g K _ s1 C1.out (by decide) (by decide)).mono ?_
      rintro e u2 ⟨y, s2, ⟨y0, y1⟩, rfl, hc2, hg2⟩
      have O2 := Lib.hid (own_new O1.out hg2 hlt)
      have G2 := Lib.hid (grown_trans G1.out hg2)
      have C2 := Lib.hid hc2
      clear hc2 hg2
      go_wp2_with fail
      refine (pick_some u2 g K s2 C2.out [1, 2, 281474976710655, y] 4 rfl (by decide) (by decide) _ rfl).mono ?_
      rintro e u3 ⟨z, s3, hz, rfl, hc3, hg3⟩
      have o3 := own_new O2.out hg3 hlt
      have hf := o3.frz j
      obtain ⟨q, hq⟩ : ∃ q, u3.cell? ⟨w.heap.size, j, none⟩ = some q := ⟨_, o3.cell j hj⟩
      have HX := Lib.hid (cells_set HL.out o3 hc3 (grown_trans G2.out hg3) hK hlt j z)
      clear o3 hc3 hg3 hz
      go_wp2
      go_roundw
      case rel => exact ⟨k, s3, _, by omega, by go_num, HX.out.1, HX.out.2.1, HX.out.2.2.1, HX.out.2.2.2⟩
      case measure => simp [intOf]
    · obtain rfl : m = 0 := by omega
      have O := Lib.hid ho
      have G := Lib.hid hg
      have C := Lib.hid hc
      clear ho hg hc
      go_wp2_with fail
      refine (below_some wr g K _ s C.out (by decide) (by decide)).mono ?_
      rintro e u1 ⟨x, s1, ⟨y0, y1⟩, rfl, hc1, hg1⟩
      have O1 := Lib.hid (own_new O.out hg1 hlt)
      have G1 := Lib.hid (grown_trans G.out hg1)
      have C1 := Lib.hid hc1
      clear hc1 hg1
      by_cases e0 : x = 0
      · have t0 : (x == 0) = true := by rw [beq_iff_eq]; exact e0
        clear e0
        go_wp2_with fail
        go_ret
        exact ⟨_, _, s1, rfl, cells_cut HL.out O1.out, by simp; omega, C1.out, G1.out⟩
      · have t0 : (x == 0) = false := by rw [beq_eq_false_iff_ne]; exact e0
        by_cases e1 : x = 1
        · have t1 : (x == 1) = true := by rw [beq_iff_eq]; exact e1
          clear e0 e1
          go_wp2_with fail
          refine (below_some u1 g K _ s1 C1.out (by decide) (by decide)).mono ?_
          rintro e u2 ⟨y, s2, ⟨z0, z1⟩, rfl, hc2, hg2⟩
          obtain ⟨j, rfl⟩ := Int.eq_ofNat_of_zero_le z0
          have hj : j < 71 := by omega
          have O2 := Lib.hid (own_new O1.out hg2 hlt)
          have G2 := Lib.hid (grown_trans G1.out hg2)
          have C2 := Lib.hid hc2
          clear hc2 hg2 z0 z1
          go_wp2_with fail
          refine (pick_some u2 g K s2 C2.out [-1, 281474976710656] 2 rfl (by decide) (by decide) _ rfl).mono ?_
          rintro e u3 ⟨z, s3, hz, rfl, hc3, hg3⟩
          have o3 := own_new O2.out hg3 hlt
          have hf := o3.frz j
          obtain ⟨q, hq⟩ : ∃ q, u3.cell? ⟨w.heap.size, j, none⟩ = some q := ⟨_, o3.cell j hj⟩
          have HX := Lib.hid (cells_set HL.out o3 hc3 (grown_trans G2.out hg3) hK hlt j z)
          clear o3 hc3 hg3 hz
          go_wp2_with fail
          go_ret
          exact ⟨_, _, s3, rfl, HX.out.2.1.rowN, by have := HX.out.1; omega, HX.out.2.2.1, HX.out.2.2.2⟩
        · have t1 : (x == 1) = false := by rw [beq_eq_false_iff_ne]; exact e1
          clear e0 e1
          go_wp2_with fail
          go_ret
          exact ⟨_, _, s1, rfl, O1.out.rowN, by have := HL.out; omega, C1.out, G1.out⟩
/-- Some row, some place, some number. -/
def DrawnRow (w : World) (e : Ending) (w' : World) : Prop := ∃ v zs i n, e = .returned (.tuple #[v, .int .i64 i, .int .i64 n]) ∧ RowN w' w.heap.size v zs ∧ zs.length ≤ 71 ∧ Below w.heap.size w w'
theorem new_then' {w w1 w2 : World} {g : Nat} (hg : w.heap.size ≤ g) (h1 : Below w.heap.size w w1) (h2 : w1.grownBy w2 (some g)) : Below w.heap.size w w2 :=
  h1.grown h2 h1.size (by intro k hk; injection hk with hk; omega)
theorem RowN.mono {w : World} {b b' : Nat} {v : Value} {zs : List Int} (h : RowN w b v zs) (hb : b' ≤ b) : RowN w b' v zs := by
  obtain ⟨h1, x, h2, h3⟩ := h
  exact ⟨h1, x, h2, Nat.le_trans hb h3⟩
end Go.Proofs.YthfbacaamhkjpaaGreatDoor
/-
  Chapter 7's draws, told in less: some row whose numbers are small. The draw's own blocks (the row, the answer's place) are carried beside the cursor.
-/
namespace Go.Proofs.YthfbacaamhkjpaaGreatDoor
open Go.RowKit M
set_option linter.unusedVariables false
theorem l5Val_some (w : World) (g : Nat) (K : Code) (s : St) (c : Cur w g K s) : Calls Tryz.prog 68 #[.pointer (some ⟨g, 0, none⟩)] w (SomeI w g K fun x => 0 ≤ x ∧ x ≤ 65535) := by
  have H1 := Lib.hid (below_some w g K 60000 s c (by decide) (by decide))
  clear c
  go_enter Tryz.func68, Tryz.ntmps68
  go_wp2_with fail
  refine H1.out.mono ?_
  rintro e w1 ⟨x, s1, hx, rfl, hc1, hg1⟩
  have X := Lib.hid hx
  have G1 := Lib.hid hg1
  have H2 := Lib.hid (below_some w1 g K 100 s1 hc1 (by decide) (by decide))
  clear hx hc1 hg1
  go_wp2_with fail
  refine H2.out.mono ?_
  rintro e w2 ⟨y, s2, hy, rfl, hc2, hg2⟩
  have Y := Lib.hid hy
  have G2 := Lib.hid (grown_trans G1.out hg2)
  have HP := Lib.hid (pick_some w2 g K s2 hc2 [0, 1, 5, 65535, x, y] 6 rfl (by decide) (by decide) _ rfl)
  clear hy hc2 hg2
  go_wp2_with fail
  refine HP.out.mono ?_
  rintro e w3 ⟨z, s3, hz, rfl, hc3, hg3⟩
  have Z : 0 ≤ z ∧ z ≤ 65535 := by have := X.out; have := Y.out; simp at hz; omega
  have C3 := Lib.hid hc3
  have G3 := Lib.hid (grown_trans G2.out hg3)
  clear hz hc3 hg3
  go_wp2_with fail
  go_ret
  exact ⟨z, s3, Z, rfl, C3.out, G3.out⟩
/-- The row's key is short and its numbers are far from an int's bounds. -/
structure Small (r : R) : Prop where
  key : r.key.size ≤ 5
  kind : -1000000000000000 ≤ r.kind ∧ r.kind ≤ 1000000000000000
  sum : -1000000000000000 ≤ r.sum ∧ r.sum ≤ 1000000000000000
  last : -1000000000000000 ≤ r.last ∧ r.last ≤ 1000000000000000
  n : -1000000000000000 ≤ r.n ∧ r.n ≤ 1000000000000000
  mn : -1000000000000000 ≤ r.mn ∧ r.mn ≤ 1000000000000000
  mx : -1000000000000000 ≤ r.mx ∧ r.mx ≤ 1000000000000000
  total : -1000000000000000 ≤ r.total ∧ r.total ≤ 1000000000000000
  dropped : -1000000000000000 ≤ r.dropped ∧ r.dropped ≤ 1000000000000000
theorem Small.fit {r : R} (h : Small r) : r.Fit := by
  obtain ⟨h0, h1, h2, h3, h4, h5, h6, h7, h8⟩ := h
  constructor <;> (try unfold inW) <;> (try unfold maxLen) <;> omega
/-- A step that leaves room: the bounds a row keeps while samples are added, and one more may be added to each field. -/
structure Tight (r : R) : Prop where
  key : r.key.size ≤ 4
  kind : 1 ≤ r.kind ∧ r.kind ≤ 3
  sum : 0 ≤ r.sum ∧ r.sum ≤ 281474976710655
  last : 0 ≤ r.last ∧ r.last ≤ 65535
  n : 0 ≤ r.n ∧ r.n ≤ 3
  mn : 0 ≤ r.mn ∧ r.mn ≤ 65535
  mx : 0 ≤ r.mx ∧ r.mx ≤ 65535
  total : 0 ≤ r.total ∧ r.total ≤ 262140
  dropped : 0 ≤ r.dropped ∧ r.dropped ≤ 65535
theorem Tight.small {r : R} (h : Tight r) : Small r := by
  obtain ⟨h0, h1, h2, h3, h4, h5, h6, h7, h8⟩ := h
  constructor <;> omega
theorem Tight.sampled {r : R} (h : Tight r) (v : Int) : Tight (sampledV r v) := by
  unfold sampledV
  split
  · rename_i hc
    obtain ⟨h0, h1, h2, h3, h4, h5, h6, h7, h8⟩ := h
    have tf := timer_facts hc.1 hc.2.1
    split
    · constructor <;> simp only <;> (first | assumption | (split <;> omega))
    · split
      · constructor <;> simp only <;> (first | assumption | omega)
      · constructor <;> simp only <;> (first | assumption | (split <;> omega) | omega)
  · exact h
theorem Cur.setAway {w : World} {g base ga : Nat} {K : Code} {s : St} (c : Cur w g K s) (hK : CodeB K base) (hg : g ≠ ga) (hga : base ≤ ga) (j : Nat) (x : Value) : Cur (w.setCell ⟨ga, j, none⟩ x) g K s := by
  obtain ⟨h1, h2, h3⟩ := c
  refine ⟨(Below.heap_setCell w ⟨ga, j, none⟩ x g hg).trans h1, ⟨h2.1, fun hp => ?_⟩, h3⟩
  obtain ⟨b, off, e, hb, hc⟩ := h2.2 hp
  have hlt := hK _ hp e
  exact ⟨b, off, e, hb, fun i hi => ⟨(World.cell?_of_block (w := w) (a := ⟨b, off + i, none⟩) (Below.heap_setCell w ⟨ga, j, none⟩ x b (show b ≠ ga by simp at hlt; omega))).trans (hc i hi).1, (hc i hi).2⟩⟩
/-- The world of a draw that holds a row: the cursor stands, the row lies in block gr, the answer's place (a row of zeros) in block o; all else is as it was in w. -/
def D7 (w : World) (g : Nat) (K : Code) (o gr : Nat) (r : R) (u : World) : Prop :=
  ((∃ s, Cur u g K s) ∧ w.grownBy u (some g)) ∧ (RowAt u o zeroR ∧ RowAt u gr r) ∧ (CodeB K w.heap.size ∧ g ≠ o ∧ g ≠ gr) ∧ w.heap.size ≤ o ∧ w.heap.size ≤ gr ∧ o ≠ gr
theorem RowAt.kept {w w' : World} {g k : Nat} {r : R} (h : RowAt w g r) (hg : w.grownBy w' (some k)) (hne : g ≠ k) : RowAt w' g r :=
  (hg.block g h.lt (fun e => hne (Option.some.inj e))).trans h
theorem D7.cur {w u : World} {g : Nat} {K : Code} {o gr : Nat} {r : R} (h : D7 w g K o gr r u) : ∃ s, Cur u g K s := h.1.1
theorem D7.call {w u u' : World} {g : Nat} {K : Code} {o gr : Nat} {r : R} (h : D7 w g K o gr r u) (s : St) (hc : Cur u' g K s) (hg : u.grownBy u' (some g)) : D7 w g K o gr r u' := by
  obtain ⟨⟨_, h1⟩, ⟨h2, h3⟩, ⟨h4, h5⟩, h6, h7, h8⟩ := h
  exact ⟨⟨⟨s, hc⟩, grown_trans h1 hg⟩, ⟨h2.kept hg (fun e => h5.1 e.symm), h3.kept hg (fun e => h5.2 e.symm)⟩, ⟨h4, h5⟩, h6, h7, h8⟩
theorem D7.below {w u u' : World} {g : Nat} {K : Code} {o gr : Nat} {r : R} (h : D7 w g K o gr r u) (hb : Below u.heap.size u u') : D7 w g K o gr r u' := by
  obtain ⟨s, hc⟩ := h.cur
  have hg : u.grownBy u' none := ⟨hb.os, hb.tape, hb.output, hb.size, fun i hi _ => hb.block i hi⟩
  exact h.call s (hc.kept hg) ⟨hg.os, hg.tape, hg.output, hg.size, fun i hi _ => hg.block i hi (by intro e; cases e)⟩
theorem D7.store {w u : World} {g : Nat} {K : Code} {o gr : Nat} {r : R} (h : D7 w g K o gr r u) (i : Nat) (v : Value) (r' : R) (e : (rowCells r).setIfInBounds i v = rowCells r') : D7 w g K o gr r' (u.setCell ⟨gr, i, none⟩ v) := by
  obtain ⟨⟨⟨s, hc⟩, h1⟩, ⟨h2, h3⟩, ⟨h4, h5⟩, h6, h7, h8⟩ := h
  exact ⟨⟨⟨s, hc.setAway h4 h5.2 h7 i v⟩, grown_setNew h1 h7 i v⟩, ⟨h2.far gr i v h8, h3.store i v r' e⟩, ⟨h4, h5⟩, h6, h7, h8⟩
theorem D7.get {w u : World} {g : Nat} {K : Code} {o gr : Nat} {r : R} (h : D7 w g K o gr r u) : RowAt u o zeroR ∧ RowAt u gr r := h.2.1
/-- Ten stores of a row into the row's own block. -/
theorem D7.fill {w u : World} {g : Nat} {K : Code} {o gr : Nat} {z : R} (h : D7 w g K o gr z u) (r : R) :
    D7 w g K o gr r ((((((((((u.setCell ⟨gr, 0, none⟩ (.string r.key)).setCell ⟨gr, 1, none⟩ (.int .i64 r.kind)).setCell ⟨gr, 2, none⟩ (.int .i64 r.sum)).setCell ⟨gr, 3, none⟩ (.bool r.set)).setCell ⟨gr, 4, none⟩ (.int .i64 r.last)).setCell ⟨gr, 5, none⟩ (.int .i64 r.n)).setCell ⟨gr, 6, none⟩ (.int .i64 r.mn)).setCell ⟨gr, 7, none⟩ (.int .i64 r.mx)).setCell ⟨gr, 8, none⟩ (.int .i64 r.total)).setCell ⟨gr, 9, none⟩ (.int .i64 r.dropped)) := by
  obtain ⟨key, kind, sum, st, last, n, mn, mx, total, dropped⟩ := r
  obtain ⟨zkey, zkind, zsum, zst, zlast, zn, zmn, zmx, ztotal, zdropped⟩ := z
  exact (((((((((h.store 0 _ ⟨key, zkind, zsum, zst, zlast, zn, zmn, zmx, ztotal, zdropped⟩ rfl).store 1 _ ⟨key, kind, zsum, zst, zlast, zn, zmn, zmx, ztotal, zdropped⟩ rfl).store 2 _ ⟨key, kind, sum, zst, zlast, zn, zmn, zmx, ztotal, zdropped⟩ rfl).store 3 _ ⟨key, kind, sum, st, zlast, zn, zmn, zmx, ztotal, zdropped⟩ rfl).store 4 _ ⟨key, kind, sum, st, last, zn, zmn, zmx, ztotal, zdropped⟩ rfl).store 5 _ ⟨key, kind, sum, st, last, n, zmn, zmx, ztotal, zdropped⟩ rfl).store 6 _ ⟨key, kind, sum, st, last, n, mn, zmx, ztotal, zdropped⟩ rfl).store 7 _ ⟨key, kind, sum, st, last, n, mn, mx, ztotal, zdropped⟩ rfl).store 8 _ ⟨key, kind, sum, st, last, n, mn, mx, total, zdropped⟩ rfl).store 9 _ ⟨key, kind, sum, st, last, n, mn, mx, total, dropped⟩ rfl
theorem wp_d7 {C : Go.Code} {Q : Exit → Act → World → Prop} {a : Act} {w u : World} {g : Nat} {K : Code} {o gr : Nat} {r : R} {i : Nat} {v : Value} (r' : R) (h : D7 w g K o gr r u)
    (e : (rowCells r).setIfInBounds i v = rowCells r') (k : ∀ u', D7 w g K o gr r' u' → Go.Code.wp Tryz.prog C Q a u') : Go.Code.wp Tryz.prog C Q a (u.setCell ⟨gr, i, none⟩ v) := k _ (h.store i v r' e)
/-- Some row; nothing but the cursor's block is turned. -/
def SomeR (w : World) (g : Nat) (K : Code) (P : R → Prop) (e : Ending) (w' : World) : Prop := ∃ r s, P r ∧ e = .returned r.v ∧ Cur w' g K s ∧ w.grownBy w' (some g)
/-- The answer is laid into its place. -/
theorem D7.answer {w u : World} {g : Nat} {K : Code} {o gr : Nat} {r : R} (h : D7 w g K o gr r u) (v0 v1 v2 v3 v4 v5 v6 v7 v8 v9 : Value) :
    ∃ s, Cur ((((((((((u.setCell ⟨o, 0, none⟩ v0).setCell ⟨o, 1, none⟩ v1).setCell ⟨o, 2, none⟩ v2).setCell ⟨o, 3, none⟩ v3).setCell ⟨o, 4, none⟩ v4).setCell ⟨o, 5, none⟩ v5).setCell ⟨o, 6, none⟩ v6).setCell ⟨o, 7, none⟩ v7).setCell ⟨o, 8, none⟩ v8).setCell ⟨o, 9, none⟩ v9) g K s ∧
      w.grownBy ((((((((((u.setCell ⟨o, 0, none⟩ v0).setCell ⟨o, 1, none⟩ v1).setCell ⟨o, 2, none⟩ v2).setCell ⟨o, 3, none⟩ v3).setCell ⟨o, 4, none⟩ v4).setCell ⟨o, 5, none⟩ v5).setCell ⟨o, 6, none⟩ v6).setCell ⟨o, 7, none⟩ v7).setCell ⟨o, 8, none⟩ v8).setCell ⟨o, 9, none⟩ v9) (some g) := by
  obtain ⟨⟨⟨s, hc⟩, h1⟩, _, ⟨h4, h5⟩, h6, h7, h8⟩ := h
  refine ⟨s, ?_, ?_⟩
  · exact (((((((((hc.setAway h4 h5.1 h6 0 v0).setAway h4 h5.1 h6 1 v1).setAway h4 h5.1 h6 2 v2).setAway h4 h5.1 h6 3 v3).setAway h4 h5.1 h6 4 v4).setAway h4 h5.1 h6 5 v5).setAway h4 h5.1 h6 6 v6).setAway h4 h5.1 h6 7 v7).setAway h4 h5.1 h6 8 v8).setAway h4 h5.1 h6 9 v9
  · exact grown_setNew (grown_setNew (grown_setNew (grown_setNew (grown_setNew (grown_setNew (grown_setNew (grown_setNew (grown_setNew (grown_setNew h1 h6 0 v0) h6 1 v1) h6 2 v2) h6 3 v3) h6 4 v4) h6 5 v5) h6 6 v6) h6 7 v7) h6 8 v8) h6 9 v9
end Go.Proofs.YthfbacaamhkjpaaGreatDoor
/-
  Chapters 8 and 9 in plain words, once more: what clearing, recording and flushing leave as it was, and what they make.
-/
namespace Go.Proofs.YthfbacaamhkjpaaGreatDoor
open Go.RowKit M
set_option linter.unusedVariables false
theorem getD_set_ne {l : List Int} {i j : Nat} (x : Int) (h : i ≠ j) : (l.set i x).getD j 0 = l.getD j 0 := by simp [List.getD_eq_getElem?_getD, List.getElem?_set_ne h]
theorem getD_set_eq {l : List Int} {i : Nat} (x : Int) (h : i < l.length) : (l.set i x).getD i 0 = x := by simp [List.getD_eq_getElem?_getD, h]
theorem isW_modW (x : Int) : isW (modW x) = true := isW_iff.2 (by unfold modW; omega)
theorem isW_small {x : Int} (h : 0 ≤ x ∧ x ≤ 4294967295) : isW x = true := isW_iff.2 (by omega)
theorem isW_gauge (a v : Int) : isW (gaugeV a v) = true := isW_iff.2 (by unfold gaugeV; split <;> omega)
theorem slotRaw_congr {x y : List Int} {b s : Int} (hx : x.length = 71) (hy : y.length = 71) (hb : 0 ≤ b ∧ b ≤ 1) (hs : 0 ≤ s ∧ s ≤ 3) (h : ∀ j : Nat, j < 8 → x.getD ((7 + b * 32 + s * 8).toNat + j) 0 = y.getD ((7 + b * 32 + s * 8).toNat + j) 0) : slotRaw x b s = slotRaw y b s := by
  refine list_getD_ext (by rw [slotRaw_len hx hb hs, slotRaw_len hy hb hs]) fun j hj => ?_
  rw [slotRaw_len hx hb hs] at hj
  rw [slotRaw_at hx hb hs j hj, slotRaw_at hy hb hs j hj, h j hj]
theorem rowInV_congr {x y : List Int} {b s : Int} (hx : okC x = true) (hy : okC y = true) (hb : 0 ≤ b ∧ b ≤ 1) (hs : 0 ≤ s ∧ s ≤ 3) (hk : x.getD (3 + s).toNat 0 = y.getD (3 + s).toNat 0)
    (h : ∀ j : Nat, j < 8 → x.getD ((7 + b * 32 + s * 8).toNat + j) 0 = y.getD ((7 + b * 32 + s * 8).toNat + j) 0) : rowInV x b s = rowInV y b s := by
  unfold rowInV
  rw [if_pos ⟨hx, bufOk_iff.2 hb, slotOk_iff.2 hs⟩, if_pos ⟨hy, bufOk_iff.2 hb, slotOk_iff.2 hs⟩, slotRaw_congr (okC_len hx) (okC_len hy) hb hs h]
  unfold cellK; rw [hk]
theorem clearT_ok {a : List Int} (b : Int) (h : okC a = true) (n : Nat) : okC (clearT a b n) = true := by
  induction n with
  | zero => exact h
  | succ n ih => rw [clearT_succ]; exact okC_set ih _ 0 rfl
theorem clearV_ok {a : List Int} {b : Int} (h : okC a = true) (hb : 0 ≤ b ∧ b ≤ 1) : okC (clearV a b) = true := by rw [clearV_yes h hb]; exact clearT_ok b h 32
theorem clearV_get {a : List Int} {b : Int} (h : okC a = true) (hb : 0 ≤ b ∧ b ≤ 1) (j : Nat) : (clearV a b).getD j 0 = if 7 + b * 32 ≤ (j : Int) ∧ (j : Int) < 39 + b * 32 then 0 else a.getD j 0 := by
  rw [clearV_yes h hb, clearT_get hb 32 (Nat.le_refl _) j]
  by_cases hin : 7 + b * 32 ≤ (j : Int) ∧ (j : Int) < 39 + b * 32
  · rw [if_pos hin, if_pos (by omega)]
  · rw [if_neg hin, if_neg (by omega)]
theorem bufClear_of {a : List Int} {b : Int} (h : okC a = true) (hb : 0 ≤ b ∧ b ≤ 1) (hz : ∀ j : Nat, 7 + b * 32 ≤ (j : Int) → (j : Int) < 39 + b * 32 → a.getD j 0 = 0) : bufClearV a b = true := by
  unfold bufClearV
  rw [h, bufOk_iff.2 hb]
  simp only [Bool.true_and, List.all_eq_true, List.mem_range, decide_eq_true_eq]
  intro i hi
  exact hz _ (by omega) (by omega)
theorem bufClear_clear {a : List Int} {b : Int} (h : okC a = true) (hb : 0 ≤ b ∧ b ≤ 1) : bufClearV (clearV a b) b = true :=
  bufClear_of (clearV_ok h hb) hb fun j h0 h1 => by rw [clearV_get h hb, if_pos ⟨h0, h1⟩]
/-- A slot whose cells are all zero has a quiet row, or none. -/
theorem row_quiet (tag : Int) {raw : List Int} (hz : ∀ j : Nat, raw.getD j 0 = 0) : (rowFromV tag raw).kind = 0 ∨ quietV (rowFromV tag raw) = true := by
  unfold rowFromV
  split
  · rename_i key kind hu
    split
    · right
      unfold kindRow
      split
      · simp only [countRow, quietV, sumT, hz]; decide
      · split
        · simp only [gaugeRow, quietV, hz]; decide
        · have e : ringV { zeroR with key := key, kind := 3 } raw 3 = { zeroR with key := key, kind := 3 } := by
            simp only [ringV, hz]; rfl
          unfold timerRow; rw [e, hz]; rfl
    · exact Or.inl rfl
  · exact Or.inl rfl
theorem addV_quiet {l : List R} {r : R} (h : r.kind = 0 ∨ quietV r = true) : addV l r = l := addV_no fun x => by
  rcases h with h | h
  · exact x.1 h
  · rw [x.2] at h; cases h
theorem reportT_none {a : List Int} {b : Int} (h : ∀ s : Nat, s < 4 → (rowInV a b s).kind = 0 ∨ quietV (rowInV a b s) = true) (n : Nat) (hn : n ≤ 4) : reportT a b n = [] := by
  induction n with
  | zero => rfl
  | succ n ih => rw [reportT_succ, ih (by omega), addV_quiet (h n (by omega))]
theorem reportT_congr {x y : List Int} {b c : Int} (h : ∀ s : Nat, s < 4 → rowInV x b s = rowInV y c s) (n : Nat) (hn : n ≤ 4) : reportT x b n = reportT y c n := by
  induction n with
  | zero => rfl
  | succ n ih => rw [reportT_succ, reportT_succ, ih (by omega), h n (by omega)]
theorem report_clear {a : List Int} {b : Int} (h : okC a = true) (hb : 0 ≤ b ∧ b ≤ 1) : reportInV (clearV a b) b = [] := by
  unfold reportInV
  rw [if_pos ⟨clearV_ok h hb, bufOk_iff.2 hb⟩]
  refine reportT_none (fun s hs => ?_) 4 (Nat.le_refl _)
  unfold rowInV
  rw [if_pos ⟨clearV_ok h hb, bufOk_iff.2 hb, slotOk_iff.2 (by omega)⟩]
  refine row_quiet _ fun j => ?_
  have hl := okC_len (clearV_ok h hb)
  by_cases hj : j < 8
  · rw [slotRaw_at hl hb (by omega) j hj, clearV_get h hb, if_pos (by omega)]
  · rw [List.getD_eq_getElem?_getD, List.getElem?_eq_none (by rw [slotRaw_len hl hb (by omega)]; omega)]; rfl
theorem report_other {a : List Int} {b : Int} (h : okC a = true) (hb : 0 ≤ b ∧ b ≤ 1) : reportInV (clearV a b) (1 - b) = reportInV a (1 - b) := by
  have hb' : 0 ≤ 1 - b ∧ 1 - b ≤ 1 := by omega
  unfold reportInV
  rw [if_pos ⟨clearV_ok h hb, bufOk_iff.2 hb'⟩, if_pos ⟨h, bufOk_iff.2 hb'⟩]
  refine reportT_congr (fun s hs => ?_) 4 (Nat.le_refl _)
  refine rowInV_congr (clearV_ok h hb) h hb' (by omega) ?_ fun j hj => ?_
  · rw [clearV_get h hb, if_neg (by omega)]
  · rw [clearV_get h hb, if_neg (by omega)]
theorem rowIn_raw {a : List Int} {b : Int} {s : Nat} (h : okC a = true) (hb : 0 ≤ b ∧ b ≤ 1) (hs : s < 4) : rowInV a b s = rowFromV (cellK a s) (slotRaw a b s) := if_pos ⟨h, bufOk_iff.2 hb, slotOk_iff.2 (by omega)⟩
theorem clear_head {a : List Int} {b : Int} (h : okC a = true) (hb : 0 ≤ b ∧ b ≤ 1) : (clearV a b).take 7 = a.take 7 := by
  have hl := okC_len (clearV_ok h hb)
  have hl2 := okC_len h
  refine list_getD_ext (by simp [hl, hl2]) fun j hj => ?_
  have hj7 : j < 7 := by simp at hj; omega
  have := clearV_get h hb j
  rw [if_neg (by omega)] at this
  simpa [List.getD_eq_getElem?_getD, hj7] using this
/-- The facts where the cells are not valid, or the buffer is none. -/
theorem drained_no {a : List Int} {b : Int} (h : ¬ (okC a = true ∧ (0 ≤ b ∧ b ≤ 1))) : reportInV a b = [] ∧ clearV a b = a ∧ bufClearV a b = false := by
  have h' : ¬ (okC a = true ∧ bufOk b = true) := fun x => h ⟨x.1, bufOk_iff.1 x.2⟩
  refine ⟨if_neg h', if_neg h', ?_⟩
  unfold bufClearV
  cases h1 : okC a with
  | false => rfl
  | true => cases h2 : bufOk b with
    | false => rfl
    | true => exact absurd ⟨h1, h2⟩ h'
/-- Recording touches only cells of its own slot, and leaves words. -/
theorem putCells_ok {a : List Int} {b s kind w v : Int} (h : okC a = true) (hv : 0 ≤ v ∧ v ≤ 65535) : okC (putCells a b s kind w v) = true := by
  unfold putCells
  split
  · exact okC_set h _ _ (isW_modW _)
  · split
    · unfold putGauge; simp only
      have h1 := okC_set h (7 + b * 32 + s * 8 + 2).toNat _ (isW_modW (a.getD (7 + b * 32 + s * 8 + 2).toNat 0 + 1))
      split
      · exact okC_set h1 _ _ (isW_gauge _ _)
      · exact h1
    · unfold putTimer; simp only
      have h1 := okC_set h (7 + b * 32 + s * 8 + 4).toNat _ (isW_modW (a.getD (7 + b * 32 + s * 8 + 4).toNat 0 + 1))
      split
      · exact h1
      · exact okC_set h1 _ _ (isW_small (by omega))
theorem putCells_get {a : List Int} {b s kind w v : Int} (h : okC a = true) (hb : 0 ≤ b ∧ b ≤ 1) (hs : 0 ≤ s ∧ s ≤ 3) (hw : 0 ≤ w ∧ w ≤ 2) (j : Nat) (hj : ¬ (7 + b * 32 + s * 8 ≤ (j : Int) ∧ (j : Int) < 15 + b * 32 + s * 8)) : (putCells a b s kind w v).getD j 0 = a.getD j 0 := by
  have h4 := okC_at h (7 + b * 32 + s * 8 + 4).toNat (by omega)
  unfold putCells
  split
  · unfold putCount; rw [getD_set_ne _ (by omega)]
  · split
    · unfold putGauge; simp only
      split
      · rw [getD_set_ne _ (by omega), getD_set_ne _ (by omega)]
      · rw [getD_set_ne _ (by omega)]
    · unfold putTimer; simp only
      split
      · rw [getD_set_ne _ (by omega)]
      · rw [getD_set_ne _ (by omega), getD_set_ne _ (by omega)]
theorem recD_done {a : List Int} {w : Int} {key : ByteArray} {v : Int} : (recD a w key v = 0 ∨ recD a w key v = 5) ↔ (recArgs a w key v = true ∧ 0 ≤ fkS a key) := by
  unfold recD
  constructor
  · intro h
    split at h
    · rename_i hr
      split at h
      · rename_i h0; exact ⟨hr, h0⟩
      · omega
    · omega
  · rintro ⟨hr, h0⟩
    rw [if_pos hr, if_pos h0]; split <;> omega
theorem epoch_bit {a : List Int} (h : okC a = true) : 0 ≤ a.getD 0 0 % 2 ∧ a.getD 0 0 % 2 ≤ 1 := by omega
/-- What a record that is taken leaves: valid cells, the epoch, all keys, every other slot's row. -/
theorem rec_done {a : List Int} {w : Int} {key : ByteArray} {v : Int} (h : recArgs a w key v = true) (h0 : 0 ≤ fkS a key) :
    okC a = true ∧ okC (recC a w key v) = true ∧ (recC a w key v).getD 0 0 = a.getD 0 0 ∧ ∀ s : Nat, s < 4 → (s : Int) ≠ fkS a key → rowInV (recC a w key v) (a.getD 0 0 % 2) s = rowInV a (a.getD 0 0 % 2) s := by
  obtain ⟨hok, hw, hk, hv⟩ := recArgs_iff.1 h
  obtain ⟨f3, _, _⟩ := fk_found h0
  have hb := epoch_bit hok
  have e : recC a w key v = putCells a (a.getD 0 0 % 2) (fkS a key) (fkK a key) w v := if_pos ⟨h, h0⟩
  rw [e]
  refine ⟨hok, putCells_ok hok hv, putCells_get hok hb ⟨h0, f3⟩ hw 0 (by omega), fun s hs hne => ?_⟩
  refine rowInV_congr (putCells_ok hok hv) hok hb (by omega) (putCells_get hok hb ⟨h0, f3⟩ hw _ (by omega)) fun j hj => ?_
  exact putCells_get hok hb ⟨h0, f3⟩ hw _ (by omega)
theorem flushC_yes {a : List Int} (h : okC a = true) : flushC a = (clearV a (a.getD 0 0 % 2)).set 0 (modW (a.getD 0 0 + 1)) := if_pos h
/-- What a flush leaves: valid cells, the window's buffer empty, the epoch one more. -/
theorem flush_done {a : List Int} (h : okC a = true) : (flushC a).length = 71 ∧ flushR a = reportInV a (a.getD 0 0 % 2) ∧ bufClearV (flushC a) (a.getD 0 0 % 2) = true ∧ (flushC a).getD 0 0 = modW (a.getD 0 0 + 1) := by
  have hb := epoch_bit h
  have hc := clearV_ok h hb
  have hl := okC_len hc
  refine ⟨by rw [flushC_len, okC_len h], if_pos h, ?_, ?_⟩
  · rw [flushC_yes h]
    refine bufClear_of (okC_set hc 0 _ (isW_modW _)) hb fun j h0 h1 => ?_
    rw [getD_set_ne _ (by omega), clearV_get h hb, if_pos ⟨h0, h1⟩]
  · rw [flushC_yes h, getD_set_eq _ (by omega)]
end Go.Proofs.YthfbacaamhkjpaaGreatDoor
/-
  The laws' comparison of two rows of numbers that are alike; rows that compare as alike; a slice's head.
-/
namespace Go.Proofs.YthfbacaamhkjpaaGreatDoor
open Go.RowKit M
set_option linter.unusedVariables false
theorem sameInts_same (w : World) (v u : Value) (zs : List Int) (h : Ints w v zs) (k : Ints w u zs) :
    Calls Tryz.prog 18 #[v, u] w (Quiet w (.bool true)) := by
  obtain ⟨b, off, cap, rfl, h1, h2, h3, h4⟩ := h
  obtain ⟨b', off', cap', rfl, k1, k2, k3, k4⟩ := k
  generalize hn : zs.length = n at *
  clear hn
  unfold maxLen at h2 k2
  have H4 := Lib.hid h4
  have K4 := Lib.hid k4
  clear h4 k4
  go_enter Tryz.func18, Tryz.ntmps18
  go_wp2
  go_loopw [5] (fun i wr => ∃ j q : Nat, j ≤ n ∧ i = .int .i64 j ∧ wr = w.drewN q) (fun i _ => n - (intOf i).toNat)
  case atStart => exact ⟨0, 0, Nat.zero_le _, rfl, rfl⟩
  case round =>
    obtain ⟨j, q, hj, rfl, rfl⟩ := hrel
    by_cases hlt : j < n
    · have g1 := H4.out j hlt
      have g2 := K4.out j hlt
      generalize zs.getD j 0 = z at *
      go_wp2_with fail
      go_quiet (fail)
      go_wp2
      go_roundw
      case rel => exact ⟨j + 1, q + _, by omega, by go_num, rfl⟩
      case measure => simp [intOf]; omega
    · go_wp2
      go_ret
      exact ⟨rfl, q, rfl⟩
theorem neq_same (w : World) (r : R) : (binOp .neq 35 r.v r.v).run Tryz.prog w = .ok (.bool false) w := by
  obtain ⟨key, kind, sum, st, last, n', mn, mx, total, dropped⟩ := r
  unfold R.v
  simp only
  rw [run_neq_struct, run_equalIn_struct _ _ _ _ _ (by kernel_rfl) stood_row]
  simp [go_sem]
/-- The first k cells of a row. -/
theorem Ints.head {w : World} {b off n cap : Nat} {zs : List Int} (h : Ints w (.slice (some ⟨b, off, none⟩) n cap) zs) (k : Nat) (hk : k ≤ n) : Ints w (.slice (some ⟨b, off, none⟩) k cap) (zs.take k) := by
  have := h.part 0 k (by omega)
  simpa using this
/-- A cell of a row that was there before. -/
theorem ints_cell {w wr : World} {b off n cap : Nat} {zs : List Int} (hz : Ints w (.slice (some ⟨b, off, none⟩) n cap) zs) (hb : Below w.heap.size w wr) (j : Nat) (hj : j < zs.length) : wr.cell? ⟨b, off + j, none⟩ = some (.int .i64 (zs.getD j 0)) := by
  obtain ⟨b', off', cap', e, _, _, _, h4⟩ := hz.below hb
  injection e with e1 _ _
  injection e1 with e1
  injection e1 with e1 e2 _
  subst e1; subst e2
  exact h4 j hj
theorem wp_row_new {C : Go.Code} {Q : Exit → Act → World → Prop} {a : Act} {w u : World} (r : R) (hb : Below w.heap.size w u)
    (k : ∀ u', Below w.heap.size w u' → RowAt u' u.heap.size r → Go.Code.wp Tryz.prog C Q a u') : Go.Code.wp Tryz.prog C Q a (u.alloc (.cells (rowCells r) 35)) :=
  k _ (hb.alloc hb.size _) (rowAt_new u _ r rfl)
theorem quiet_gives {P : Program} {f : FuncId} {vs : Array Value} {w : World} {v : Value} (h : Calls P f vs w (Quiet w v)) : Calls P f vs w (Gives v w) := h.mono fun _ _ hq => hq.below
end Go.Proofs.YthfbacaamhkjpaaGreatDoor
/-
  The model's comparison of two rows of cells.
-/
namespace Go.Proofs.YthfbacaamhkjpaaGreatDoor
open Go.RowKit M
set_option linter.unusedVariables false
def AgreeTo (xs ys : List Int) (j : Nat) : Prop := ∀ m, m < j → xs.getD m 0 = ys.getD m 0
theorem AgreeTo.zero (xs ys : List Int) : AgreeTo xs ys 0 := fun m h => absurd h (Nat.not_lt_zero _)
theorem AgreeTo.next {xs ys : List Int} {j : Nat} (h : AgreeTo xs ys j) (k : xs.getD j 0 = ys.getD j 0) : AgreeTo xs ys (j + 1) := fun m hm => by
  by_cases e : m = j
  · rw [e]; exact k
  · exact h m (by omega)
theorem AgreeTo.all {xs ys : List Int} (h : AgreeTo xs ys xs.length) (hl : xs.length = ys.length) : xs = ys := by
  apply List.ext_getElem hl
  intro i h1 h2
  have := h i h1
  rw [List.getD_eq_getElem?_getD, List.getD_eq_getElem?_getD, List.getElem?_eq_getElem h1, List.getElem?_eq_getElem h2] at this
  exact this
set_option maxRecDepth 100000 in
theorem sSame_any (w : World) (v u : Value) (xs ys : List Int) (h : Ints w v xs) (k : Ints w u ys) :
    Calls Tryz.prog 9 #[v, u] w (Quiet w (.bool (xs == ys))) := by
  obtain ⟨b, off, cap, rfl, h1, h2, h3, h4⟩ := h
  obtain ⟨b', off', cap', rfl, k1, k2, k3, k4⟩ := k
  by_cases hl : xs.length = ys.length
  · have HL := Lib.hid hl
    rw [← hl] at k1 k4 ⊢
    generalize hn : xs.length = n at *
    have HN := Lib.hid hn
    clear hn hl
    unfold maxLen at h2 k2
    have H4 := Lib.hid h4
    have K4 := Lib.hid k4
    clear h4 k4
    go_enter Tryz.func9, Tryz.ntmps9
    go_wp2
    go_loopw [5] (fun i wr => ∃ j q : Nat, j ≤ n ∧ i = .int .i64 j ∧ wr = w.drewN q ∧ AgreeTo xs ys j) (fun i _ => n - (intOf i).toNat)
    case atStart => exact ⟨0, 0, Nat.zero_le _, rfl, rfl, AgreeTo.zero _ _⟩
    case round =>
      obtain ⟨j, q, hj, rfl, rfl, ha⟩ := hrel
      have HA := Lib.hid ha
      clear ha
      by_cases hlt : j < n
      · have g1 := H4.out j hlt
        have g2 := K4.out j hlt
        by_cases he : xs.getD j 0 = ys.getD j 0
        · rw [← he] at g2
          have HE := Lib.hid he
          clear he
          generalize hz : xs.getD j 0 = z at *
          have HZ := Lib.hid hz
          clear hz
          go_wp2_with fail
          go_quiet (fail)
          go_wp2
          go_roundw
          case rel => exact ⟨j + 1, q + _, by omega, by go_num, rfl, HA.out.next (HZ.out.trans HE.out)⟩
          case measure => simp [intOf]; omega
        · have HX := Lib.hid (show (xs == ys) = false by
            rw [beq_eq_false_iff_ne]; intro h; exact he (by rw [h]))
          generalize xs.getD j 0 = z at *
          generalize ys.getD j 0 = y at *
          have t1 : (z != y) = true := by rw [bne_iff_ne]; exact he
          clear he
          go_wp2_with fail
          go_quiet (fail)
          go_wp2
          go_ret
          exact ⟨ret_bool' HX.out.symm, _, World.drewN_drewN _ _ _⟩
      · obtain rfl : j = n := by omega
        have HX := Lib.hid (show (xs == ys) = true by
          rw [beq_iff_eq]; exact AgreeTo.all (by rw [HN.out]; exact HA.out) (by first | exact HL.out | exact HN.out.trans HL.out))
        go_wp2
        go_ret
        exact ⟨ret_bool' HX.out.symm, q, rfl⟩
  · have HX := Lib.hid (show (xs == ys) = false by
      rw [beq_eq_false_iff_ne]; intro h; exact hl (by rw [h]))
    have t1 : ((xs.length : Int) != (ys.length : Int)) = true := by rw [bne_iff_ne]; omega
    generalize xs.length = n at *
    generalize ys.length = m at *
    clear h4 k4
    go_enter Tryz.func9, Tryz.ntmps9
    go_wp2
    go_ret
    exact ⟨ret_bool' HX.out.symm, 0, rfl⟩
end Go.Proofs.YthfbacaamhkjpaaGreatDoor
/-
  Chapter 5's draws, told in less: some text and some kind; two numbers.
-/
namespace Go.Proofs.YthfbacaamhkjpaaGreatDoor
open Go.RowKit M
set_option linter.unusedVariables false
/-- Some text and some kind; nothing that was there is turned. -/
def GivesTI (w : World) (e : Ending) (w' : World) : Prop := ∃ (x : ByteArray) (k : Int), x.size ≤ 5 ∧ (0 ≤ k ∧ k ≤ 4) ∧ e = .returned (.tuple #[.string x, .int .i64 k]) ∧ Below w.heap.size w w'
/-- Two numbers; nothing that was there is turned. -/
def GivesII (w : World) (e : Ending) (w' : World) : Prop := ∃ a b : Int, (-1 ≤ a ∧ a ≤ 65536) ∧ (-1 ≤ b ∧ b ≤ 65536) ∧ e = .returned (.tuple #[.int .i64 a, .int .i64 b]) ∧ Below w.heap.size w w'
end Go.Proofs.YthfbacaamhkjpaaGreatDoor
/-
  Chapter 7's draws, told in less: some row, small; some row and some number.
-/
namespace Go.Proofs.YthfbacaamhkjpaaGreatDoor
open Go.RowKit M
set_option linter.unusedVariables false
set_option linter.unusedSimpArgs false
theorem wp_d7_fill {C : Go.Code} {Q : Exit → Act → World → Prop} {a : Act} {w u : World} {g : Nat} {K : Code} {o gr : Nat} {z : R} (r : R) (h : D7 w g K o gr z u) (k : ∀ u', D7 w g K o gr r u' → Go.Code.wp Tryz.prog C Q a u') :
    Go.Code.wp Tryz.prog C Q a ((((((((((u.setCell ⟨gr, 0, none⟩ (.string r.key)).setCell ⟨gr, 1, none⟩ (.int .i64 r.kind)).setCell ⟨gr, 2, none⟩ (.int .i64 r.sum)).setCell ⟨gr, 3, none⟩ (.bool r.set)).setCell ⟨gr, 4, none⟩ (.int .i64 r.last)).setCell ⟨gr, 5, none⟩ (.int .i64 r.n)).setCell ⟨gr, 6, none⟩ (.int .i64 r.mn)).setCell ⟨gr, 7, none⟩ (.int .i64 r.mx)).setCell ⟨gr, 8, none⟩ (.int .i64 r.total)).setCell ⟨gr, 9, none⟩ (.int .i64 r.dropped)) := k _ (h.fill r)
theorem wp_d7_new {C : Go.Code} {Q : Exit → Act → World → Prop} {a : Act} {w u : World} {g : Nat} {K : Code} {o : Nat} {s : St} (r : R) (hc : Cur u g K s) (h1 : w.grownBy u (some g)) (hz : RowAt u o zeroR) (hB : CodeB K w.heap.size) (hg : g ≠ o) (ho : w.heap.size ≤ o)
    (k : ∀ u', D7 w g K o u.heap.size r u' → Go.Code.wp Tryz.prog C Q a u') : Go.Code.wp Tryz.prog C Q a (u.alloc (.cells (rowCells r) 35)) :=
  k _ ⟨⟨⟨s, hc.alloc _⟩, grown_trans h1 (World.grownBy_alloc _ _ _)⟩, ⟨hz.alloc _, rowAt_new u _ r rfl⟩, ⟨hB, hg, Nat.ne_of_lt hc.lt⟩, ho, h1.size, Nat.ne_of_lt hz.lt⟩
/-- A sample more, told in less. -/
def SomeRow (w : World) (P : R → Prop) (e : Ending) (w' : World) : Prop := ∃ (key : ByteArray) (kind sum : Int) (st : Bool) (last n mn mx total dropped : Int), P ⟨key, kind, sum, st, last, n, mn, mx, total, dropped⟩ ∧ e = .returned (.agg #[.string key, .int .i64 kind, .int .i64 sum, .bool st, .int .i64 last, .int .i64 n, .int .i64 mn, .int .i64 mx, .int .i64 total, .int .i64 dropped]) ∧ Below w.heap.size w w'
theorem sampled_tight (w : World) (key : ByteArray) (kind sum : Int) (st : Bool) (last n mn mx total dropped v : Int) (h : Tight ⟨key, kind, sum, st, last, n, mn, mx, total, dropped⟩) :
    Calls Tryz.prog 58 #[.agg #[.string key, .int .i64 kind, .int .i64 sum, .bool st, .int .i64 last, .int .i64 n, .int .i64 mn, .int .i64 mx, .int .i64 total, .int .i64 dropped], .int .i64 v] w (SomeRow w Tight) := by
  refine (sSampled_any w ⟨key, kind, sum, st, last, n, mn, mx, total, dropped⟩ v (by have := h.key; unfold maxLen; simp only at this ⊢; omega)).mono ?_
  rintro e w' ⟨rfl, hb⟩
  have ht := h.sampled v
  generalize sampledV ⟨key, kind, sum, st, last, n, mn, mx, total, dropped⟩ v = r at *
  obtain ⟨key, kind, sum, st, last, n, mn, mx, total, dropped⟩ := r
  exact ⟨_, _, _, _, _, _, _, _, _, _, ht, rfl, hb⟩
end Go.Proofs.YthfbacaamhkjpaaGreatDoor
/-
  Chapter 7's draws: some row, small, and some number.
-/
namespace Go.Proofs.YthfbacaamhkjpaaGreatDoor
open Go.RowKit M
set_option linter.unusedVariables false
set_option linter.unusedSimpArgs false
/-- Some row, small, and some number; nothing that was there is turned. -/
def GivesRI (w : World) (e : Ending) (w' : World) : Prop := ∃ (r : R) (v : Int), Small r ∧ (-1 ≤ v ∧ v ≤ 65536) ∧ e = .returned (.tuple #[r.v, .int .i64 v]) ∧ Below w.heap.size w w'

end Go.Proofs.YthfbacaamhkjpaaGreatDoor
/-
  What a sample and a count make of a valid row: a valid row, its numbers as promised.
-/
namespace Go.Proofs.YthfbacaamhkjpaaGreatDoor
open Go.RowKit M
set_option linter.unusedVariables false
theorem rowOk_timer {r : R} (hk : r.kind = 3) : rowOkV r = true ↔ keyOkV r.key = true ∧ (r.sum = 0 ∧ r.set = false ∧ r.last = 0) ∧ timerV r = true := by
  unfold rowOkV
  rw [if_neg (by omega), if_neg (by omega), if_pos hk, Bool.and_eq_true, Bool.and_eq_true, decide_eq_true_eq]
theorem timer_iff {r : R} (hn : r.n ≠ 0) : timerV r = true ↔ ((1 ≤ r.n ∧ r.n ≤ 3) ∧ (0 ≤ r.mn ∧ r.mn ≤ r.mx) ∧ r.mx ≤ 65535 ∧ (r.mn * r.n ≤ r.total ∧ r.total ≤ r.mx * r.n) ∧ (0 ≤ r.dropped ∧ r.dropped ≤ 65535) ∧ (r.dropped = 0 ∨ r.n = 3)) := by
  unfold timerV
  rw [if_neg hn, decide_eq_true_eq]
theorem timer_zero {r : R} (hn : r.n = 0) : timerV r = true ↔ (r.mn = 0 ∧ r.mx = 0 ∧ r.total = 0 ∧ r.dropped = 0) := by
  unfold timerV
  rw [if_pos hn, decide_eq_true_eq]
theorem sampled_full {r : R} {v : Int} (h : rowOkV r = true ∧ r.kind = 3 ∧ (0 ≤ v ∧ v ≤ 65535)) (hn : r.n = 3) : rowOkV (sampledV r v) = true ∧ (sampledV r v).n = 3 ∧ (sampledV r v).dropped = min (r.dropped + 1) 65535 := by
  rw [sampled_3 h hn]
  have h' := (rowOk_timer h.2.1).1 h.1
  have ht := (timer_iff (by omega)).1 h'.2.2
  refine ⟨(rowOk_timer (by exact h.2.1)).2 ⟨h'.1, h'.2.1, (timer_iff (by simp only; omega)).2 ?_⟩, hn, ?_⟩
  · simp only
    refine ⟨ht.1, ht.2.1, ht.2.2.1, ht.2.2.2.1, ?_, .inr hn⟩
    split <;> omega
  · simp only; split <;> omega
theorem sampled_room {r : R} {v : Int} (h : rowOkV r = true ∧ r.kind = 3 ∧ (0 ≤ v ∧ v ≤ 65535)) (hn : r.n ≠ 3) :
    rowOkV (sampledV r v) = true ∧ ((sampledV r v).n = r.n + 1 ∧ (sampledV r v).dropped = 0 ∧ r.dropped = 0) ∧ (sampledV r v).mn ≤ v ∧ v ≤ (sampledV r v).mx ∧ (sampledV r v).total = r.total + v := by
  have h' := (rowOk_timer h.2.1).1 h.1
  obtain ⟨v0, v1⟩ := h.2.2
  by_cases h0 : r.n = 0
  · have ht := (timer_zero h0).1 h'.2.2
    rw [sampled_0 h h0]
    refine ⟨(rowOk_timer (by exact h.2.1)).2 ⟨h'.1, h'.2.1, (timer_iff (by simp)).2 ?_⟩, ⟨by simp only; omega, ht.2.2.2, ht.2.2.2⟩, by simp, by simp, rfl⟩
    simp only
    exact ⟨by omega, by omega, by omega, by omega, by omega, .inl ht.2.2.2⟩
  · have ht := (timer_iff h0).1 h'.2.2
    obtain ⟨⟨a1, a2⟩, ⟨b1, b2⟩, c1, ⟨d1, d2⟩, ⟨e1, e2⟩, f1⟩ := ht
    have hd : r.dropped = 0 := by omega
    rw [sampled_n h hn h0]
    refine ⟨(rowOk_timer (by exact h.2.1)).2 ⟨h'.1, h'.2.1, (timer_iff (by simp only; omega)).2 ?_⟩, ⟨rfl, hd, hd⟩, by simp only; split <;> omega, by simp only; split <;> omega, rfl⟩
    have hc : r.n = 1 ∨ r.n = 2 := by omega
    simp only
    rcases hc with hc | hc
    · rw [hc] at d1 d2 ⊢
      refine ⟨by omega, ?_, ?_, ?_, by omega, .inl hd⟩ <;> ((repeat' split) <;> omega)
    · rw [hc] at d1 d2 ⊢
      refine ⟨by omega, ?_, ?_, ?_, by omega, .inl hd⟩ <;> ((repeat' split) <;> omega)
theorem counted_ok {r : R} {v : Int} (h : countedV r v ≠ r) : rowOkV (countedV r v) = true ∧ (countedV r v).sum = (r.sum + v) % 281474976710656 ∧ 0 ≤ r.sum ∧ 0 ≤ v := by
  by_cases hc : rowOkV r = true ∧ r.kind = 1 ∧ (0 ≤ v ∧ v ≤ 65535)
  · have hf := count_facts hc.1 hc.2.1
    rw [counted_yes hc]
    refine ⟨?_, rfl, hf.1, hc.2.2.1⟩
    have h1 := hc.1
    unfold rowOkV at h1 ⊢
    simp only
    rw [if_pos hc.2.1, Bool.and_eq_true] at h1 ⊢
    refine ⟨h1.1, ?_⟩
    have h2 := h1.2
    unfold countV at h2 ⊢
    simp only [decide_eq_true_eq] at h2 ⊢
    exact ⟨by omega, h2.2⟩
  · exact absurd (counted_no hc) h
theorem quiet_zero (key : ByteArray) (kind : Int) : quietV ⟨key, kind, 0, false, 0, 0, 0, 0, 0, 0⟩ = true := rfl
end Go.Proofs.YthfbacaamhkjpaaGreatDoor
/-
  Two rows in blocks of a law's own, carried from world to world.
-/
namespace Go.Proofs.YthfbacaamhkjpaaGreatDoor
open Go.RowKit M
set_option linter.unusedVariables false
def F7 (w : World) (gr gx : Nat) (r x : R) (u : World) : Prop := Below w.heap.size w u ∧ RowAt u gr r ∧ RowAt u gx x
theorem F7.below {w u u' : World} {gr gx : Nat} {r x : R} (h : F7 w gr gx r x u) (hb : Below u.heap.size u u') : F7 w gr gx r x u' := ⟨h.1.trans (hb.mono h.1.size), h.2.1.below hb, h.2.2.below hb⟩
theorem F7.get {w u : World} {gr gx : Nat} {r x : R} (h : F7 w gr gx r x u) : RowAt u gr r ∧ RowAt u gx x := h.2
theorem F7.bel {w u : World} {gr gx : Nat} {r x : R} (h : F7 w gr gx r x u) : Below w.heap.size w u := h.1
theorem wp_f7_new {C : Go.Code} {Q : Exit → Act → World → Prop} {a : Act} {w u : World} {gr : Nat} {r : R} (x : R) (hb : Below w.heap.size w u) {B : Nat} (_ : w.heap.size ≤ B) (hr : RowAt u gr r)
    (k : ∀ u', F7 w gr u.heap.size r x u' → Go.Code.wp Tryz.prog C Q a u') : Go.Code.wp Tryz.prog C Q a (u.alloc (.cells (rowCells x) 35)) :=
  k _ ⟨hb.alloc hb.size _, hr.alloc _, rowAt_new u _ x rfl⟩
theorem CodeIn.below_of {w u : World} {K : Code} (h : CodeIn w K) (hb : Below w.heap.size w u) : CodeIn u K := h.below hb
theorem Small.sampled {r : R} (h : Small r) (v : Int) : Small (sampledV r v) := by
  by_cases hc : rowOkV r = true ∧ r.kind = 3 ∧ (0 ≤ v ∧ v ≤ 65535)
  · have tf := timer_facts hc.1 hc.2.1
    obtain ⟨h0, h1, h2, h3, h4, h5, h6, h7, h8⟩ := h
    unfold sampledV
    rw [if_pos hc]
    split
    · constructor <;> simp only <;> (first | assumption | (split <;> omega))
    · split
      · constructor <;> simp only <;> (first | assumption | omega)
      · constructor <;> simp only <;> (first | assumption | (split <;> omega) | omega)
  · rw [sampled_no hc]; exact h
theorem Small.counted {r : R} (h : Small r) (v : Int) : Small (countedV r v) := by
  unfold countedV
  split
  · obtain ⟨h0, h1, h2, h3, h4, h5, h6, h7, h8⟩ := h
    constructor <;> simp only <;> (first | assumption | omega)
  · exact h
theorem Fit.zero {key : ByteArray} {kind : Int} (h0 : key.size ≤ maxLen) (h1 : inW kind) : R.Fit ⟨key, kind, 0, false, 0, 0, 0, 0, 0, 0⟩ := by
  constructor <;> first | exact h0 | exact h1 | (unfold inW; simp only; omega)
set_option maxRecDepth 100000 in
set_option maxHeartbeats 4000000 in
theorem eq_row (w : World) (r s : R) : (binOp .eql 35 r.v s.v).run Tryz.prog w = .ok (.bool (decide (r = s))) w := by
  by_cases h : r = s
  · subst h
    rw [decide_eq_true rfl]
    obtain ⟨key, kind, sum, st, last, n', mn, mx, total, dropped⟩ := r
    unfold R.v
    simp only
    rw [run_eql_struct, run_equalIn_struct _ _ _ _ _ (by kernel_rfl) stood_row]
    simp [go_sem]
  · rw [decide_eq_false h]
    have := neq_row w r s h
    obtain ⟨key, kind, sum, st, last, n', mn, mx, total, dropped⟩ := r
    obtain ⟨key', kind', sum', st', last', n'', mn', mx', total', dropped'⟩ := s
    unfold R.v at *
    simp only at *
    rw [run_neq_struct] at this
    rw [run_eql_struct]
    generalize (Op.equalIn 10000 35 _ _).run Tryz.prog w = q at *
    cases q with
    | ok b w' =>
      simp only [Result.andThen_ok] at this ⊢
      injection this with e1 e2
      injection e1 with e1
      subst e2
      cases b
      · rfl
      · cases e1
    | halt a b => simp [Result.andThen] at this
end Go.Proofs.YthfbacaamhkjpaaGreatDoor
