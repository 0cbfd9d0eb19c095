/-
  Contracts of chapter 2, the model's and the program's: exchange, comparison and exchange, sum; comparing two rows.
-/
import Derived.Test.YtagohmlochbmdaaCellS
namespace Go.Proofs.Ytagohmlochbmdaa
open Go.RowKit M
set_option linter.unusedVariables false
theorem below_drewN {B : Nat} {a w : World} (h : Below B a w) (n : Nat) : Below B a (w.drewN n) := ⟨h.os, h.tape, h.output, h.size, h.block⟩
theorem OwnI.drewN {w : World} {base : Nat} {v : Value} {zs : List Int} (h : OwnI w base v zs) (n : Nat) : OwnI (w.drewN n) base v zs := h
/-- What an exchange answers beside the row. -/
def swapR (zs : List Int) (i n : Int) : Int := if storeOk zs i n then zs.getD i.toNat 0 else -1
set_option maxRecDepth 100000 in
theorem sSwap_any (w : World) (v : Value) (zs : List Int) (i n : Int) (h : Ints w v zs) (hl : zs.length ≤ 1048576) :
    Calls Try.prog 30 #[v, .int .i64 i, .int .i64 n] w (TupI w (storeC zs i n) (.int .i64 (swapR zs i n))) := by
  have HC := Lib.hid (copy_any w v zs h hl)
  have HI := Lib.hid h
  cases hs : storeOk zs i n with
  | true =>
    have HR := Lib.hid (show swapR zs i n = zs.getD i.toNat 0 from if_pos hs)
    rw [store_yes hs]
    have hs' := hs
    simp only [storeOk, Bool.and_eq_true] at hs'
    obtain ⟨ha, hn⟩ := hs'
    obtain ⟨n0, n1⟩ := isW_iff.1 hn
    obtain ⟨h0, i0, i1⟩ := atC_iff.1 ha
    have hlen := okC_len h0
    obtain ⟨j, rfl⟩ := Int.eq_ofNat_of_zero_le i0
    rw [Int.toNat_natCast] at HR ⊢
    have hj : j < zs.length := by omega
    have HA := Lib.hid ha
    obtain ⟨b, off, cap0, rfl, h1, h2, h3, h4⟩ := h
    have H4 := h4 j hj
    generalize hz0 : zs.getD j 0 = z0 at *
    generalize hsw : swapR zs (j : Int) n = r at *
    obtain rfl : r = z0 := HR.out
    clear hs ha hn h0 hlen HR h4 hz0 hsw
    go_enter Try.func30, Try.ntmps30
    go_wp2_with fail
    refine HC.out.mono ?_
    rintro e w1 ⟨u, rfl, ho, hb⟩
    obtain ⟨g, cap, rfl⟩ := ho.2
    have HS := Lib.hid (sAt_yes w1 _ zs _ (HI.out.below hb) HA.out)
    have hf := ho.frz j
    obtain ⟨z, hz⟩ : ∃ z, w1.cell? ⟨g, j, none⟩ = some z := ⟨_, ho.cell j hj⟩
    have hO := own_set ho j n hb hb.size
    have g1 := (hO.2.cell (p := ⟨b, off + j, none⟩) h3).trans H4
    have HO := Lib.hid hO
    generalize hm : zs.length = m at *
    have HM := Lib.hid hm
    unfold maxLen at h2
    have hm2 : m ≤ 9223372036854775807 := by omega
    clear hm ho hb hO
    go_wp2_with (first | (go_at_call 38; refine HS.out.mono ?_; rintro e w' ⟨rfl, rfl⟩) | (go_at_call 39; refine (l1In_yes _ _ _ _ (by omega) (by omega)).mono ?_; rintro e w' ⟨rfl, rfl⟩))
    go_quiet (fail)
    go_wp2
    go_ret2
    exact ⟨_, rfl, HO.out.1.drewN _, below_drewN HO.out.2 _⟩
  | false =>
    have HR := Lib.hid (show swapR zs i n = -1 from if_neg (by rw [hs]; decide))
    rw [store_no hs]
    generalize hsw : swapR zs i n = r at *
    obtain rfl : r = -1 := HR.out
    cases ha : atC zs i with
    | false =>
      have HA := Lib.hid ha
      clear hs ha h hsw HR
      go_enter Try.func30, Try.ntmps30
      go_wp2_with fail
      refine HC.out.mono ?_
      rintro e w1 ⟨u, rfl, ho, hb⟩
      have HS := Lib.hid (sAt_no w1 v zs _ (HI.out.below hb) HA.out)
      have HO := Lib.hid ho
      have HB := Lib.hid hb
      clear ho hb
      go_wp2_with (first | (go_at_call 38; refine HS.out.mono ?_; rintro e w' ⟨rfl, rfl⟩))
      go_ret2
      exact ⟨_, rfl, HO.out, HB.out⟩
    | true =>
      have HA := Lib.hid ha
      have hn : n < 0 ∨ 281474976710655 < n := by
        simp only [storeOk, ha, Bool.true_and] at hs
        exact isW_no.1 hs
      clear hs ha h hsw HR
      go_enter Try.func30, Try.ntmps30
      go_wp2_with fail
      refine HC.out.mono ?_
      rintro e w1 ⟨u, rfl, ho, hb⟩
      have HS := Lib.hid (sAt_yes w1 v zs _ (HI.out.below hb) HA.out)
      have HO := Lib.hid ho
      have HB := Lib.hid hb
      clear ho hb
      go_wp2_with (first | (go_at_call 38; refine HS.out.mono ?_; rintro e w' ⟨rfl, rfl⟩) | (go_at_call 39; refine (l1In_no _ _ _ _ (by omega)).mono ?_; rintro e w' ⟨rfl, rfl⟩))
      go_ret2
      exact ⟨_, rfl, HO.out, HB.out⟩
set_option maxRecDepth 100000 in
theorem iSwap_any (w : World) (v : Value) (zs : List Int) (i n : Int) (h : Ints w v zs) (hl : zs.length ≤ 1048576) :
    Calls Try.prog 17 #[v, .int .i64 i, .int .i64 n] w (TupI w (storeC zs i n) (.int .i64 (swapR zs i n))) := by
  cases hs : storeOk zs i n with
  | true =>
    have HC := Lib.hid (iStore_any w v zs i n h hl true hs)
    have HR := Lib.hid (show swapR zs i n = zs.getD i.toNat 0 from if_pos hs)
    have hs' := hs
    simp only [storeOk, Bool.and_eq_true] at hs'
    obtain ⟨ha, hn⟩ := hs'
    obtain ⟨h0, i0, i1⟩ := atC_iff.1 ha
    have hlen := okC_len h0
    obtain ⟨j, rfl⟩ := Int.eq_ofNat_of_zero_le i0
    rw [Int.toNat_natCast] at HR
    have hj : j < zs.length := by omega
    obtain ⟨b, off, cap0, rfl, h1, h2, h3, h4⟩ := h
    have H4 := h4 j hj
    generalize hz0 : zs.getD j 0 = z0 at *
    generalize hsw : swapR zs (j : Int) n = r at *
    obtain rfl : r = z0 := HR.out
    generalize hm : zs.length = m at *
    unfold maxLen at h2
    clear hs ha hn h0 hlen HR h4 hz0 hsw hm
    go_enter Try.func17, Try.ntmps17
    go_wp2_with fail
    refine HC.out.mono ?_
    rintro e w1 ⟨u, rfl, ho, hb⟩
    have g1 := (hb.cell (p := ⟨b, off + j, none⟩) h3).trans H4
    have HO := Lib.hid ho
    have HB := Lib.hid hb
    clear ho hb
    go_wp2_with fail
    go_quiet (fail)
    go_wp2
    go_ret2
    exact ⟨_, rfl, HO.out.drewN _, below_drewN HB.out _⟩
  | false =>
    have HC := Lib.hid (iStore_any w v zs i n h hl false hs)
    have HR := Lib.hid (show swapR zs i n = -1 from if_neg (by rw [hs]; decide))
    generalize hsw : swapR zs i n = r at *
    obtain rfl : r = -1 := HR.out
    clear hs h hsw HR
    go_enter Try.func17, Try.ntmps17
    go_wp2_with fail
    refine HC.out.mono ?_
    rintro e w1 ⟨u, rfl, ho, hb⟩
    have HO := Lib.hid ho
    have HB := Lib.hid hb
    clear ho hb
    go_wp2_with fail
    go_ret2
    exact ⟨_, rfl, HO.out, HB.out⟩
/-- What comparison and exchange makes of the row, and answers beside it. -/
def casOk (zs : List Int) (i old : Int) : Bool := atC zs i && (zs.getD i.toNat 0 == old)
def casC (zs : List Int) (i old to : Int) : List Int := if casOk zs i old then storeC zs i to else zs
def casR (zs : List Int) (i old to : Int) : Bool := casOk zs i old && storeOk zs i to
theorem casC_length (zs : List Int) (i o n : Int) : (casC zs i o n).length = zs.length := by unfold casC; split <;> simp [storeC_length]
set_option maxRecDepth 100000 in
theorem sCas_any (w : World) (v : Value) (zs : List Int) (i old to : Int) (h : Ints w v zs) (hl : zs.length ≤ 1048576) :
    Calls Try.prog 28 #[v, .int .i64 i, .int .i64 old, .int .i64 to] w (TupI w (casC zs i old to) (.bool (casR zs i old to))) := by
  have HC := fun W k => Lib.hid (copy_any W v zs k hl)
  have HI := Lib.hid h
  cases ha : atC zs i with
  | false =>
    have HX := Lib.hid (show casC zs i old to = zs from if_neg (by simp [casOk, ha]))
    have HY := Lib.hid (show casR zs i old to = false by simp [casR, casOk, ha])
    have HA := Lib.hid (sAt_no w v zs i h ha)
    clear ha h
    generalize casR zs i old to = r at *
    obtain rfl : r = false := HY.out
    rw [HX.out]
    clear HX HY
    go_enter Try.func28, Try.ntmps28
    go_wp2_with fail
    refine HA.out.mono ?_
    rintro e w1 ⟨rfl, rfl⟩
    go_wp2_with fail
    refine (HC w HI.out).out.mono ?_
    rintro e w1 ⟨u, rfl, ho, hb⟩
    have HO := Lib.hid ho
    have HB := Lib.hid hb
    clear ho hb
    go_wp2_with fail
    go_ret2
    exact ⟨_, rfl, HO.out, HB.out⟩
  | true =>
    have HA := Lib.hid (sAt_yes w v zs i h ha)
    have HA2 := Lib.hid ha
    obtain ⟨h0, i0, i1⟩ := atC_iff.1 ha
    have hlen := okC_len h0
    obtain ⟨j, rfl⟩ := Int.eq_ofNat_of_zero_le i0
    have hj : j < zs.length := by omega
    obtain ⟨b, off, cap0, rfl, h1, h2, h3, h4⟩ := h
    have H4 := h4 j hj
    by_cases hz : zs.getD j 0 = old
    · have HX := Lib.hid (show casC zs (j : Int) old to = storeC zs (j : Int) to from if_pos (by simp only [casOk, ha, Int.toNat_natCast, hz]; simp))
      have HY := Lib.hid (show casR zs (j : Int) old to = storeOk zs (j : Int) to by simp only [casR, casOk, ha, Int.toNat_natCast, hz]; simp)
      have HS := Lib.hid (sStore_any w _ zs (j : Int) to HI.out hl _ rfl)
      rw [hz] at H4
      generalize casR zs (j : Int) old to = r at *
      obtain rfl : r = storeOk zs (j : Int) to := HY.out
      rw [HX.out]
      generalize storeOk zs (j : Int) to = r at *
      generalize hm : zs.length = m at *
      unfold maxLen at h2
      clear HX HY h4 ha h0 hlen hz hm
      go_enter Try.func28, Try.ntmps28
      go_wp2_with fail
      refine HA.out.mono ?_
      rintro e w1 ⟨rfl, rfl⟩
      go_wp2_with fail
      refine HS.out.mono ?_
      rintro e w1 ⟨u, rfl, ho, hb⟩
      have HO := Lib.hid ho
      have HB := Lib.hid hb
      clear ho hb
      go_wp2_with fail
      go_ret2
      exact ⟨_, rfl, HO.out, HB.out⟩
    · have HX := Lib.hid (show casC zs (j : Int) old to = zs from if_neg (by simp only [casOk, ha, Int.toNat_natCast]; simpa using hz))
      have HY := Lib.hid (show casR zs (j : Int) old to = false by simp only [casR, casOk, ha, Int.toNat_natCast]; simp; intro h; exact absurd h hz)
      have HC2 := Lib.hid (HC w HI.out)
      generalize casR zs (j : Int) old to = r at *
      obtain rfl : r = false := HY.out
      rw [HX.out]
      generalize zs.getD j 0 = z at *
      have t1 : (z != old) = true := by rw [bne_iff_ne]; exact hz
      generalize hm : zs.length = m at *
      unfold maxLen at h2
      clear HX HY h4 ha h0 hlen hz hm
      go_enter Try.func28, Try.ntmps28
      go_wp2_with fail
      refine HA.out.mono ?_
      rintro e w1 ⟨rfl, rfl⟩
      go_wp2_with fail
      refine HC2.out.out.mono ?_
      rintro e w1 ⟨u, rfl, ho, hb⟩
      have HO := Lib.hid ho
      have HB := Lib.hid hb
      clear ho hb
      go_wp2_with fail
      go_ret2
      exact ⟨_, rfl, HO.out, HB.out⟩
set_option maxRecDepth 100000 in
theorem iCas_any (w : World) (v : Value) (zs : List Int) (i old to : Int) (h : Ints w v zs) (hl : zs.length ≤ 1048576) :
    Calls Try.prog 18 #[v, .int .i64 i, .int .i64 old, .int .i64 to] w (TupI w (casC zs i old to) (.bool (casR zs i old to))) := by
  have HC := Lib.hid (clone_any w v zs h hl)
  cases ha : atC zs i with
  | false =>
    have HX := Lib.hid (show casC zs i old to = zs from if_neg (by simp [casOk, ha]))
    have HY := Lib.hid (show casR zs i old to = false by simp [casR, casOk, ha])
    have HA := Lib.hid (iLoad_no w v zs i h ha)
    clear ha h
    generalize casR zs i old to = r at *
    obtain rfl : r = false := HY.out
    rw [HX.out]
    clear HX HY
    go_enter Try.func18, Try.ntmps18
    go_wp2_with fail
    refine HA.out.mono ?_
    rintro e w1 ⟨rfl, rfl⟩
    go_wp2_with fail
    refine HC.out.mono ?_
    rintro e w1 ⟨u, rfl, ho, hb⟩
    have HO := Lib.hid ho
    have HB := Lib.hid hb
    clear ho hb
    go_wp2_with fail
    go_ret2
    exact ⟨_, rfl, HO.out, HB.out⟩
  | true =>
    have HA := Lib.hid (iLoad_yes w v zs i h ha)
    by_cases hz : zs.getD i.toNat 0 = old
    · have HX := Lib.hid (show casC zs i old to = storeC zs i to from if_pos (by simp only [casOk, ha, hz]; simp))
      have HY := Lib.hid (show casR zs i old to = storeOk zs i to by simp only [casR, casOk, ha, hz]; simp)
      have HS := Lib.hid (iStore_any w v zs i to h hl _ rfl)
      generalize casR zs i old to = r at *
      obtain rfl : r = storeOk zs i to := HY.out
      rw [HX.out]
      generalize storeOk zs i to = r at *
      generalize zs.getD i.toNat 0 = z at *
      subst hz
      clear HX HY h ha
      go_enter Try.func18, Try.ntmps18
      go_wp2_with fail
      refine HA.out.mono ?_
      rintro e w1 ⟨rfl, rfl⟩
      go_wp2_with fail
      refine HS.out.mono ?_
      rintro e w1 ⟨u, rfl, ho, hb⟩
      have HO := Lib.hid ho
      have HB := Lib.hid hb
      clear ho hb
      go_wp2_with fail
      go_ret2
      exact ⟨_, rfl, HO.out, HB.out⟩
    · have HX := Lib.hid (show casC zs i old to = zs from if_neg (by simp only [casOk, ha]; simpa using hz))
      have HY := Lib.hid (show casR zs i old to = false by simp only [casR, casOk, ha]; simp; intro h; exact absurd h hz)
      generalize casR zs i old to = r at *
      obtain rfl : r = false := HY.out
      rw [HX.out]
      generalize zs.getD i.toNat 0 = z at *
      have t1 : (z != old) = true := by rw [bne_iff_ne]; exact hz
      clear HX HY h ha hz
      go_enter Try.func18, Try.ntmps18
      go_wp2_with fail
      refine HA.out.mono ?_
      rintro e w1 ⟨rfl, rfl⟩
      go_wp2_with fail
      refine HC.out.mono ?_
      rintro e w1 ⟨u, rfl, ho, hb⟩
      have HO := Lib.hid ho
      have HB := Lib.hid hb
      clear ho hb
      go_wp2_with fail
      go_ret2
      exact ⟨_, rfl, HO.out, HB.out⟩
end Go.Proofs.Ytagohmlochbmdaa
