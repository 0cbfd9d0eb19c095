/-
  Contracts of chapter 2, the model's and the program's: the sum; comparing two rows.
-/
import Derived.Test.YtagohmlochbmdaaCellX
namespace Go.Proofs.Ytagohmlochbmdaa
open Go.RowKit M
set_option linter.unusedVariables false
def addOk (zs : List Int) (i n : Int) : Bool := atC zs i && (decide (-281474976710655 ≤ n) && decide (n ≤ 281474976710655))
/-- The sum of a cell and a number, modulo the word. -/
def addV (old n : Int) : Int := (old + n) % 281474976710656
def addC (zs : List Int) (i n : Int) : List Int := if addOk zs i n then zs.set i.toNat (addV (zs.getD i.toNat 0) n) else zs
def addR (zs : List Int) (i n : Int) : Int := if addOk zs i n then zs.getD i.toNat 0 else -1
theorem addC_length (zs : List Int) (i n : Int) : (addC zs i n).length = zs.length := by unfold addC; split <;> simp
theorem addV_bd (old n : Int) : 0 ≤ addV old n ∧ addV old n ≤ 281474976710655 := by unfold addV; omega
theorem addV_isW (old n : Int) : isW (addV old n) = true := isW_iff.2 (addV_bd old n)
theorem tmod_word (x : Int) (h0 : -1000000000000000 ≤ x) (h1 : x ≤ 1000000000000000) : (x.tmod 281474976710656 + 281474976710656) % 281474976710656 = x % 281474976710656 := by
  have h := Int.tmod_eq_emod (a := x) (b := 281474976710656)
  split at h <;> simp at h <;> omega
theorem tmod_bd (x : Int) : -281474976710656 < x.tmod 281474976710656 ∧ x.tmod 281474976710656 < 281474976710656 := by
  have h := Int.tmod_eq_emod (a := x) (b := 281474976710656)
  split at h <;> simp at h <;> omega
theorem mod_any (x : Int) (w : World) (h0 : -1000000000000000 ≤ x) (h1 : x ≤ 1000000000000000) :
    Calls Try.prog 41 #[.int .i64 x] w (Same w (.int .i64 (x % 281474976710656))) := by
  have HT := Lib.hid (tmod_word x h0 h1)
  obtain ⟨b0, b1⟩ := tmod_bd x
  go_enter Try.func41, Try.ntmps41
  go_wp2
  go_ret
  exact ⟨ret_val (by rw [← HT.out]; rfl), rfl⟩
set_option maxRecDepth 100000 in
theorem sAdd_any (w : World) (v : Value) (zs : List Int) (i n : Int) (h : Ints w v zs) (hl : zs.length ≤ 1048576) :
    Calls Try.prog 29 #[v, .int .i64 i, .int .i64 n] w (TupI w (addC zs i n) (.int .i64 (addR zs i n))) := by
  have HC := Lib.hid (copy_any w v zs h hl)
  have HI := Lib.hid h
  cases hs : addOk zs i n with
  | true =>
    have HR := Lib.hid (show addR zs i n = zs.getD i.toNat 0 from if_pos hs)
    have HX := Lib.hid (show addC zs i n = zs.set i.toNat (addV (zs.getD i.toNat 0) n) from if_pos hs)
    rw [HX.out]
    have hs' := hs
    simp only [addOk, Bool.and_eq_true, decide_eq_true_eq] at hs'
    obtain ⟨ha, n0, n1⟩ := hs'
    obtain ⟨h0, i0, i1⟩ := atC_iff.1 ha
    have hlen := okC_len h0
    obtain ⟨j, rfl⟩ := Int.eq_ofNat_of_zero_le i0
    rw [Int.toNat_natCast] at HR ⊢
    have hj : j < zs.length := by omega
    have HA := Lib.hid ha
    obtain ⟨z0, z1⟩ := okC_at h0 j (by omega)
    obtain ⟨b, off, cap0, rfl, h1, h2, h3, h4⟩ := h
    have H4 := h4 j hj
    generalize hz0 : zs.getD j 0 = zz at *
    generalize hsw : addR zs (j : Int) n = r at *
    obtain rfl : r = zz := HR.out
    clear hs ha h0 hlen HR h4 hz0 hsw HX
    go_enter Try.func29, Try.ntmps29
    go_wp2_with fail
    refine HC.out.mono ?_
    rintro e w1 ⟨u, rfl, ho, hb⟩
    obtain ⟨g, cap, rfl⟩ := ho.2
    have HS := Lib.hid (sAt_yes w1 _ zs _ (HI.out.below hb) HA.out)
    have hf := ho.frz j
    obtain ⟨z, hz⟩ : ∃ z, w1.cell? ⟨g, j, none⟩ = some z := ⟨_, ho.cell j hj⟩
    have g0 := (hb.cell (p := ⟨b, off + j, none⟩) h3).trans H4
    have hO := own_set ho j (addV r n) hb hb.size
    have g1 := (hO.2.cell (p := ⟨b, off + j, none⟩) h3).trans H4
    have HO := Lib.hid hO
    generalize hm : zs.length = m at *
    have HM := Lib.hid hm
    unfold maxLen at h2
    have hm2 : m ≤ 9223372036854775807 := by omega
    have HV := Lib.hid (show (r + n) % 281474976710656 = addV r n from rfl)
    generalize addV r n = y at *
    clear hm ho hb hO
    go_wp2_with fail
    refine HS.out.mono ?_
    rintro e w2 ⟨rfl, rfl⟩
    go_wp2_with fail
    refine (l1In_yes _ _ _ _ (by omega) (by omega)).mono ?_
    rintro e w2 ⟨rfl, rfl⟩
    go_wp2_with fail
    refine (mod_any _ _ (by omega) (by omega)).mono ?_
    rintro e w2 ⟨rfl, rfl⟩
    rw [HV.out]
    go_wp2_with fail
    go_quiet (fail)
    go_wp2
    go_ret2
    exact ⟨_, rfl, HO.out.1.drewN _, below_drewN HO.out.2 _⟩
  | false =>
    have HR := Lib.hid (show addR zs i n = -1 from if_neg (by rw [hs]; decide))
    have HX := Lib.hid (show addC zs i n = zs from if_neg (by rw [hs]; decide))
    rw [HX.out]
    generalize hsw : addR zs i n = r at *
    obtain rfl : r = -1 := HR.out
    cases ha : atC zs i with
    | false =>
      have HA := Lib.hid ha
      clear hs ha h hsw HR HX
      go_enter Try.func29, Try.ntmps29
      go_wp2_with fail
      refine HC.out.mono ?_
      rintro e w1 ⟨u, rfl, ho, hb⟩
      have HS := Lib.hid (sAt_no w1 v zs _ (HI.out.below hb) HA.out)
      have HO := Lib.hid ho
      have HB := Lib.hid hb
      clear ho hb
      go_wp2_with (first | (go_at_call 38; refine HS.out.mono ?_; rintro e w' ⟨rfl, rfl⟩))
      go_ret2
      exact ⟨_, rfl, HO.out, HB.out⟩
    | true =>
      have HA := Lib.hid ha
      have hn : n < -281474976710655 ∨ 281474976710655 < n := by
        simp only [addOk, ha, Bool.true_and, Bool.and_eq_false_iff, decide_eq_false_iff_not] at hs
        omega
      clear hs ha h hsw HR HX
      go_enter Try.func29, Try.ntmps29
      go_wp2_with fail
      refine HC.out.mono ?_
      rintro e w1 ⟨u, rfl, ho, hb⟩
      have HS := Lib.hid (sAt_yes w1 v zs _ (HI.out.below hb) HA.out)
      have HO := Lib.hid ho
      have HB := Lib.hid hb
      clear ho hb
      go_wp2_with (first | (go_at_call 38; refine HS.out.mono ?_; rintro e w' ⟨rfl, rfl⟩) | (go_at_call 39; refine (l1In_no _ _ _ _ (by omega)).mono ?_; rintro e w' ⟨rfl, rfl⟩))
      go_ret2
      exact ⟨_, rfl, HO.out, HB.out⟩
theorem add_store {zs : List Int} {i n : Int} (h : addOk zs i n = true) (m : Int) (hm : m = addV (zs.getD i.toNat 0) n) : storeC zs i m = addC zs i n ∧ swapR zs i m = addR zs i n := by
  have ha : atC zs i = true := by simp only [addOk, Bool.and_eq_true] at h; exact h.1
  have hs : storeOk zs i m = true := by unfold storeOk; rw [ha, hm, addV_isW]; rfl
  constructor
  · rw [store_yes hs, addC, if_pos h, hm]
  · rw [swapR, if_pos hs, addR, if_pos h]
set_option maxRecDepth 100000 in
theorem iAdd_any (w : World) (v : Value) (zs : List Int) (i n : Int) (h : Ints w v zs) (hl : zs.length ≤ 1048576) (n0 : -9223372036854775808 ≤ n) (n1 : n ≤ 9223372036854775807) :
    Calls Try.prog 19 #[v, .int .i64 i, .int .i64 n] w (TupI w (addC zs i n) (.int .i64 (addR zs i n))) := by
  cases ha : atC zs i with
  | false =>
    have hs : addOk zs i n = false := by unfold addOk; rw [ha]; rfl
    have HR := Lib.hid (show addR zs i n = -1 from if_neg (by rw [hs]; decide))
    have HX := Lib.hid (show addC zs i n = zs from if_neg (by rw [hs]; decide))
    have HC := Lib.hid (clone_any w v zs h hl)
    have HA := Lib.hid (iLoad_no w v zs i h ha)
    rw [HX.out]
    generalize addR zs i n = r at *
    obtain rfl : r = -1 := HR.out
    clear hs ha h HR HX
    go_enter Try.func19, Try.ntmps19
    go_wp2_with fail
    refine HA.out.mono ?_
    rintro e w1 ⟨rfl, rfl⟩
    go_wp2_with fail
    refine HC.out.mono ?_
    rintro e w1 ⟨u, rfl, ho, hb⟩
    have HO := Lib.hid ho
    have HB := Lib.hid hb
    clear ho hb
    go_wp2_with fail
    go_ret2
    exact ⟨_, rfl, HO.out, HB.out⟩
  | true =>
    have HA := Lib.hid (iLoad_yes w v zs i h ha)
    by_cases b0 : n ≤ -281474976710656 ∨ 281474976710656 ≤ n
    · have hs : addOk zs i n = false := by
        simp only [addOk, ha, Bool.true_and, Bool.and_eq_false_iff, decide_eq_false_iff_not]; omega
      have HR := Lib.hid (show addR zs i n = -1 from if_neg (by rw [hs]; decide))
      have HX := Lib.hid (show addC zs i n = zs from if_neg (by rw [hs]; decide))
      have HC := Lib.hid (clone_any w v zs h hl)
      rw [HX.out]
      generalize addR zs i n = r at *
      obtain rfl : r = -1 := HR.out
      generalize zs.getD i.toNat 0 = z at *
      clear hs ha h HR HX
      by_cases b1 : n ≤ -281474976710656
      · have t1 : decide (n ≤ -281474976710656) = true := by simp; omega
        clear b0
        go_enter Try.func19, Try.ntmps19
        go_wp2_with fail
        refine HA.out.mono ?_
        rintro e w1 ⟨rfl, rfl⟩
        go_wp2_with fail
        refine HC.out.mono ?_
        rintro e w1 ⟨u, rfl, ho, hb⟩
        have HO := Lib.hid ho
        have HB := Lib.hid hb
        clear ho hb
        go_wp2_with fail
        go_ret2
        exact ⟨_, rfl, HO.out, HB.out⟩
      · have t1 : decide (n ≤ -281474976710656) = false := by simp; omega
        have t2 : decide (281474976710656 ≤ n) = true := by simp; omega
        clear b0
        go_enter Try.func19, Try.ntmps19
        go_wp2_with fail
        refine HA.out.mono ?_
        rintro e w1 ⟨rfl, rfl⟩
        go_wp2_with fail
        refine HC.out.mono ?_
        rintro e w1 ⟨u, rfl, ho, hb⟩
        have HO := Lib.hid ho
        have HB := Lib.hid hb
        clear ho hb
        go_wp2_with fail
        go_ret2
        exact ⟨_, rfl, HO.out, HB.out⟩
    · have hs : addOk zs i n = true := by
        simp only [addOk, ha, Bool.true_and, Bool.and_eq_true, decide_eq_true_eq]; omega
      obtain ⟨h0, i0, i1⟩ := atC_iff.1 ha
      have hlen := okC_len h0
      obtain ⟨z0, z1⟩ := okC_at h0 i.toNat (by omega)
      have hst := add_store hs ((zs.getD i.toNat 0 + n) % 281474976710656) rfl
      have HS := iSwap_any w v zs i ((zs.getD i.toNat 0 + n) % 281474976710656) h hl
      rw [hst.1, hst.2] at HS
      have HS2 := Lib.hid HS
      generalize addC zs i n = ys at *
      generalize addR zs i n = r at *
      generalize zs.getD i.toNat 0 = z at *
      have t1 : decide (n ≤ -281474976710656) = false := by simp; omega
      have t2 : decide (281474976710656 ≤ n) = false := by simp; omega
      have t3 : -281474976710656 < n := by omega
      have t4 : n < 281474976710656 := by omega
      clear hs ha h h0 hlen hst HS b0
      go_enter Try.func19, Try.ntmps19
      go_wp2_with fail
      refine HA.out.mono ?_
      rintro e w1 ⟨rfl, rfl⟩
      go_wp2_with fail
      refine HS2.out.mono ?_
      rintro e w1 ⟨u, rfl, ho, hb⟩
      have HO := Lib.hid ho
      have HB := Lib.hid hb
      clear ho hb
      go_wp2_with fail
      go_ret2
      exact ⟨_, rfl, HO.out, HB.out⟩
def AgreeTo (xs ys : List Int) (j : Nat) : Prop := ∀ m, m < j → xs.getD m 0 = ys.getD m 0
theorem AgreeTo.zero (xs ys : List Int) : AgreeTo xs ys 0 := fun m h => absurd h (Nat.not_lt_zero _)
theorem AgreeTo.next {xs ys : List Int} {j : Nat} (h : AgreeTo xs ys j) (k : xs.getD j 0 = ys.getD j 0) : AgreeTo xs ys (j + 1) := fun m hm => by
  by_cases e : m = j
  · rw [e]; exact k
  · exact h m (by omega)
theorem AgreeTo.all {xs ys : List Int} (h : AgreeTo xs ys xs.length) (hl : xs.length = ys.length) : xs = ys := by
  apply List.ext_getElem hl
  intro i h1 h2
  have := h i h1
  rw [List.getD_eq_getElem?_getD, List.getD_eq_getElem?_getD, List.getElem?_eq_getElem h1, List.getElem?_eq_getElem h2] at this
  exact this
set_option maxRecDepth 100000 in
theorem sSame_any (w : World) (v u : Value) (xs ys : List Int) (h : Ints w v xs) (k : Ints w u ys) :
    Calls Try.prog 15 #[v, u] w (Quiet w (.bool (xs == ys))) := by
  obtain ⟨b, off, cap, rfl, h1, h2, h3, h4⟩ := h
  obtain ⟨b', off', cap', rfl, k1, k2, k3, k4⟩ := k
  by_cases hl : xs.length = ys.length
  · have HL := Lib.hid hl
    rw [← hl] at k1 k4 ⊢
    generalize hn : xs.length = n at *
    have HN := Lib.hid hn
    clear hn hl
    unfold maxLen at h2 k2
    have H4 := Lib.hid h4
    have K4 := Lib.hid k4
    clear h4 k4
    go_enter Try.func15, Try.ntmps15
    go_wp2
    go_loopw [5] (fun i wr => ∃ j q : Nat, j ≤ n ∧ i = .int .i64 j ∧ wr = w.drewN q ∧ AgreeTo xs ys j) (fun i _ => n - (intOf i).toNat)
    case atStart => exact ⟨0, 0, Nat.zero_le _, rfl, rfl, AgreeTo.zero _ _⟩
    case round =>
      obtain ⟨j, q, hj, rfl, rfl, ha⟩ := hrel
      have HA := Lib.hid ha
      clear ha
      by_cases hlt : j < n
      · have g1 := H4.out j hlt
        have g2 := K4.out j hlt
        by_cases he : xs.getD j 0 = ys.getD j 0
        · rw [← he] at g2
          have HE := Lib.hid he
          clear he
          generalize hz : xs.getD j 0 = z at *
          have HZ := Lib.hid hz
          clear hz
          go_wp2_with fail
          go_quiet (fail)
          go_wp2
          go_roundw
          case rel => exact ⟨j + 1, q + _, by omega, by go_num, rfl, HA.out.next (HZ.out.trans HE.out)⟩
          case measure => simp [intOf]; omega
        · have HX := Lib.hid (show (xs == ys) = false by
            rw [beq_eq_false_iff_ne]; intro h; exact he (by rw [h]))
          generalize xs.getD j 0 = z at *
          generalize ys.getD j 0 = y at *
          have t1 : (z != y) = true := by rw [bne_iff_ne]; exact he
          clear he
          go_wp2_with fail
          go_quiet (fail)
          go_wp2
          go_ret
          exact ⟨ret_bool' HX.out.symm, _, World.drewN_drewN _ _ _⟩
      · obtain rfl : j = n := by omega
        have HX := Lib.hid (show (xs == ys) = true by
          rw [beq_iff_eq]; exact AgreeTo.all (by rw [HN.out]; exact HA.out) (by first | exact HL.out | exact HN.out.trans HL.out))
        go_wp2
        go_ret
        exact ⟨ret_bool' HX.out.symm, q, rfl⟩
  · have HX := Lib.hid (show (xs == ys) = false by
      rw [beq_eq_false_iff_ne]; intro h; exact hl (by rw [h]))
    have t1 : ((xs.length : Int) != (ys.length : Int)) = true := by rw [bne_iff_ne]; omega
    generalize xs.length = n at *
    generalize ys.length = m at *
    clear h4 k4
    go_enter Try.func15, Try.ntmps15
    go_wp2
    go_ret
    exact ⟨ret_bool' HX.out.symm, 0, rfl⟩
theorem iSame_any (w : World) (v u : Value) (xs ys : List Int) (h : Ints w v xs) (k : Ints w u ys) :
    Calls Try.prog 20 #[v, u] w (Quiet w (.bool (xs == ys))) := by
  obtain ⟨b, off, cap, rfl, h1, h2, h3, h4⟩ := h
  obtain ⟨b', off', cap', rfl, k1, k2, k3, k4⟩ := k
  unfold maxLen at h2 k2
  have hq := Try.slices_Equal_int b off xs.length cap b' off' ys.length cap' xs ys w (Nat.le_refl _) (Nat.le_refl _) (by omega) (by omega) h4 k4
  rw [List.take_length, List.take_length] at hq
  have HQ := Lib.hid hq
  clear hq h4 k4
  generalize (xs == ys) = r at *
  go_enter Try.func20, Try.ntmps20
  go_wp2_with fail
  refine HQ.out.mono ?_
  rintro e w1 ⟨rfl, q, rfl⟩
  go_wp2_with fail
  go_ret
  exact ⟨rfl, q, rfl⟩
end Go.Proofs.Ytagohmlochbmdaa
