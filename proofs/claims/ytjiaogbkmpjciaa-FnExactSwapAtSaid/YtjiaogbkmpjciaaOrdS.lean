/-
  Chapter 14, the model: where an event lies, when a window ends, when an operation counts, which counts ahead.
-/
import Derived.Test.YtjiaogbkmpjciaaZa
import Derived.Test.YtjiaogbkmpjciaaZd
namespace Go.Proofs.Ytjiaogbkmpjciaa
open Go.RowKit M
set_option linter.unusedVariables false
set_option linter.unusedSimpArgs false
theorem retn {x y : Int} (h : x = y) : Ending.returned (.int .i64 x) = .returned (.int .i64 y) := by rw [h]
theorem retb {x y : Bool} (h : x = y) : Ending.returned (.bool x) = .returned (.bool y) := by rw [h]
set_option maxRecDepth 100000 in
set_option maxHeartbeats 1600000 in
theorem sPlaceOf_any (w : World) (v : Value) (l : List M.E) (kind serial : Int) (h : ArgT 13 evDat zeroE w v l) : Calls Try.prog 11 #[v, .int .i64 kind, .int .i64 serial] w (Gives (.int .i64 (placeV l kind serial)) w) := by
  have HAT := Lib.hid (fun W (hb : Below w.heap.size w W) j (hj : j < l.length) => argEv_at (h.below hb) j hj)
  have HD := Lib.hid (fun j (hj : j < l.length) => place_drop kind serial l j hj)
  have HE := Lib.hid (place_end kind serial l)
  have HV := Lib.hid (place_start kind serial l)
  generalize placeV l kind serial = res at *
  obtain ⟨A, cap, rfl, h1, h2, _⟩ := h
  unfold maxLen at h2
  generalize hn : l.length = n at *
  clear hn
  have hul := Try.underlying47
  go_enter Try.func11, Try.ntmps11
  go_wp2_with fail
  go_loopw [7] (fun i wr => ∃ j : Nat, j ≤ n ∧ i = .int .i64 j ∧ placeD kind serial (l.drop 0) 0 = placeD kind serial (l.drop j) j ∧ Below w.heap.size w wr) (fun i _ => n - (intOf i).toNat)
  case atStart => exact ⟨0, Nat.zero_le _, rfl, rfl, Below.refl _ _⟩
  case round =>
    obtain ⟨j, hj, rfl, he, hbl⟩ := hrel
    have HQ := Lib.hid he
    clear he
    by_cases hlt : j < n
    · obtain ⟨b, off, cp, vrows, hA, hc1, hc2, hb, hrng, _⟩ := HAT.out wr hbl j hlt
      injection hA with hA1 hA2 hA3
      subst hA1
      clear hA2 hA3
      have hjn : (j : Int) < (n : Int) := by omega
      have c0 : wr.cell? ⟨b, off + j * 13, none⟩ = some (.int .i64 (l.getD j zeroE).kind) := hrng 0 _ rfl
      have c2 : wr.cell? ⟨b, off + j * 13 + 2, none⟩ = some (.int .i64 (l.getD j zeroE).serial) := hrng 2 _ rfl
      have HDJ := HD.out j hlt
      unfold evIs at HDJ
      have HB := Lib.hid hbl
      clear hrng HAT HD hbl
      generalize (l.getD j zeroE).kind = q at *
      generalize (l.getD j zeroE).serial = q2 at *
      by_cases k1 : q = kind
      · have d1 : (q == kind) = true := by rw [beq_iff_eq]; exact k1
        by_cases k2 : q2 = serial
        · have d2 : (q2 == serial) = true := by rw [beq_iff_eq]; exact k2
          have HN := Lib.hid (HV.out.trans (HQ.out.trans (HDJ.trans (if_pos (by rw [decide_eq_true k1, decide_eq_true k2]; rfl)))))
          clear k1 k2 HDJ
          go_wp2_with fail
          go_ret
          exact ⟨retn HN.out.symm, HB.out⟩
        · have d2 : (q2 == serial) = false := by rw [beq_eq_false_iff_ne]; exact k2
          have HN := Lib.hid (HQ.out.trans (HDJ.trans (if_neg (by rw [decide_eq_false k2]; simp))))
          clear k1 k2 HDJ
          go_wp2_with fail
          go_roundw
          case rel => exact ⟨j + 1, by omega, by go_num, HN.out, HB.out⟩
          case measure => simp [intOf]; omega
      · have d1 : (q == kind) = false := by rw [beq_eq_false_iff_ne]; exact k1
        have HN := Lib.hid (HQ.out.trans (HDJ.trans (if_neg (by rw [decide_eq_false k1]; simp))))
        clear k1 HDJ
        go_wp2_with fail
        go_roundw
        case rel => exact ⟨j + 1, by omega, by go_num, HN.out, HB.out⟩
        case measure => simp [intOf]; omega
    · have hjn : j = n := by omega
      subst hjn
      have hltz : ¬ (j : Int) < (j : Int) := by omega
      have HB := Lib.hid hbl
      have HN := Lib.hid (HV.out.trans (HQ.out.trans HE.out))
      clear hbl
      go_wp2_with fail
      go_ret
      exact ⟨retn HN.out.symm, HB.out⟩
set_option maxRecDepth 100000 in
set_option maxHeartbeats 1600000 in
theorem sSwapAt_any (w : World) (v : Value) (l : List M.E) (win : Int) (h : ArgT 13 evDat zeroE w v l) : Calls Try.prog 15 #[v, .int .i64 win] w (Gives (.int .i64 (swapV l win)) w) := by
  have HAT := Lib.hid (fun W (hb : Below w.heap.size w W) j (hj : j < l.length) => argEv_at (h.below hb) j hj)
  have HD := Lib.hid (fun j (hj : j < l.length) => swap_drop win l j hj)
  have HE := Lib.hid (swap_end win l)
  have HV := Lib.hid (show swapV l win = swapD win (l.drop 0) from by rw [List.drop_zero]; rfl)
  generalize swapV l win = res at *
  obtain ⟨A, cap, rfl, h1, h2, _⟩ := h
  unfold maxLen at h2
  generalize hn : l.length = n at *
  clear hn
  have hul := Try.underlying47
  go_enter Try.func15, Try.ntmps15
  go_wp2_with fail
  go_loopw [5] (fun i wr => ∃ j : Nat, j ≤ n ∧ i = .int .i64 j ∧ swapD win (l.drop 0) = swapD win (l.drop j) ∧ Below w.heap.size w wr) (fun i _ => n - (intOf i).toNat)
  case atStart => exact ⟨0, Nat.zero_le _, rfl, rfl, Below.refl _ _⟩
  case round =>
    obtain ⟨j, hj, rfl, he, hbl⟩ := hrel
    have HQ := Lib.hid he
    clear he
    by_cases hlt : j < n
    · obtain ⟨b, off, cp, vrows, hA, hc1, hc2, hb, hrng, _⟩ := HAT.out wr hbl j hlt
      injection hA with hA1 hA2 hA3
      subst hA1
      clear hA2 hA3
      have hjn : (j : Int) < (n : Int) := by omega
      have c0 : wr.cell? ⟨b, off + j * 13, none⟩ = some (.int .i64 (l.getD j zeroE).kind) := hrng 0 _ rfl
      have c3 : wr.cell? ⟨b, off + j * 13 + 3, none⟩ = some (.int .i64 (l.getD j zeroE).at_) := hrng 3 _ rfl
      have c4 : wr.cell? ⟨b, off + j * 13 + 4, none⟩ = some (.int .i64 (l.getD j zeroE).op.kind) := hrng 4 _ rfl
      have c9 : wr.cell? ⟨b, off + j * 13 + 9, none⟩ = some (.int .i64 (l.getD j zeroE).win) := hrng 9 _ rfl
      have HDJ := HD.out j hlt
      unfold isSwap at HDJ
      have HB := Lib.hid hbl
      clear hrng HAT HD hbl
      generalize (l.getD j zeroE).kind = q at *
      generalize (l.getD j zeroE).op.kind = q2 at *
      generalize (l.getD j zeroE).win = q3 at *
      generalize (l.getD j zeroE).at_ = q4 at *
      by_cases k1 : q = 2
      · have d1 : (q == 2) = true := by rw [beq_iff_eq]; exact k1
        by_cases k2 : q2 = 3
        · have d2 : (q2 == 3) = true := by rw [beq_iff_eq]; exact k2
          by_cases k3 : q3 = win
          · have d3 : (q3 == win) = true := by rw [beq_iff_eq]; exact k3
            have HN := Lib.hid (HV.out.trans (HQ.out.trans (HDJ.trans (if_pos (by rw [decide_eq_true k1, decide_eq_true k2, decide_eq_true k3]; rfl)))))
            clear k1 k2 k3 HDJ
            go_wp2_with fail
            go_ret
            exact ⟨retn HN.out.symm, HB.out⟩
          · have d3 : (q3 == win) = false := by rw [beq_eq_false_iff_ne]; exact k3
            have HN := Lib.hid (HQ.out.trans (HDJ.trans (if_neg (by rw [decide_eq_false k3]; simp))))
            clear k1 k2 k3 HDJ
            go_wp2_with fail
            go_roundw
            case rel => exact ⟨j + 1, by omega, by go_num, HN.out, HB.out⟩
            case measure => simp [intOf]; omega
        · have d2 : (q2 == 3) = false := by rw [beq_eq_false_iff_ne]; exact k2
          have HN := Lib.hid (HQ.out.trans (HDJ.trans (if_neg (by rw [decide_eq_false k2]; simp))))
          clear k1 k2 HDJ
          go_wp2_with fail
          go_roundw
          case rel => exact ⟨j + 1, by omega, by go_num, HN.out, HB.out⟩
          case measure => simp [intOf]; omega
      · have d1 : (q == 2) = false := by rw [beq_eq_false_iff_ne]; exact k1
        have HN := Lib.hid (HQ.out.trans (HDJ.trans (if_neg (by rw [decide_eq_false k1]; simp))))
        clear k1 HDJ
        go_wp2_with fail
        go_roundw
        case rel => exact ⟨j + 1, by omega, by go_num, HN.out, HB.out⟩
        case measure => simp [intOf]; omega
    · have hjn : j = n := by omega
      subst hjn
      have hltz : ¬ (j : Int) < (j : Int) := by omega
      have HB := Lib.hid hbl
      have HN := Lib.hid (HV.out.trans (HQ.out.trans HE.out))
      clear hbl
      go_wp2_with fail
      go_ret
      exact ⟨retn HN.out.symm, HB.out⟩
set_option maxRecDepth 100000 in
set_option maxHeartbeats 1600000 in
theorem sInTime_any (w : World) (v : Value) (l : List M.E) (a c : Int) (h : ArgT 13 evDat zeroE w v l) : Calls Try.prog 27 #[v, .int .i64 a, .int .i64 c] w (Gives (.bool (inTimeV l a c)) w) := by
  have CP := fun W (hb : Below w.heap.size w W) k s => Lib.hid (sPlaceOf_any W v l k s (h.below hb))
  have HV := Lib.hid (show inTimeV l a c = (decide (0 ≤ placeV l 3 a) && (decide (0 ≤ placeV l 1 c) && decide (placeV l 3 a < placeV l 1 c))) from rfl)
  obtain ⟨A, cap, rfl, _⟩ := h
  go_enter Try.func27, Try.ntmps27
  go_wp2_with fail
  refine (CP _ (Below.refl _ _) 3 a).out.mono ?_
  rintro e w1 ⟨rfl, hb1⟩
  go_wp2_with fail
  refine (CP _ hb1 1 c).out.mono ?_
  rintro e w2 ⟨rfl, hb2⟩
  have HB := Lib.hid (hb1.trans (hb2.mono hb1.size))
  clear hb1 hb2 CP
  generalize inTimeV l a c = res at *
  generalize placeV l 3 a = x at *
  generalize placeV l 1 c = y at *
  by_cases k1 : 0 ≤ x
  · have d1 : decide (x ≥ 0) = true := decide_eq_true k1
    by_cases k2 : 0 ≤ y
    · have d2 : decide (y ≥ 0) = true := decide_eq_true k2
      have HN := Lib.hid (HV.out.trans (by rw [decide_eq_true k1, decide_eq_true k2, Bool.true_and, Bool.true_and]))
      clear k1 k2
      go_wp2_with fail
      go_ret
      exact ⟨retb HN.out.symm, HB.out⟩
    · have d2 : decide (y ≥ 0) = false := decide_eq_false k2
      have HN := Lib.hid (show res = false from HV.out.trans (by rw [decide_eq_false k2]; simp))
      clear k1 k2
      go_wp2_with fail
      go_ret
      exact ⟨retb HN.out.symm, HB.out⟩
  · have d1 : decide (x ≥ 0) = false := decide_eq_false k1
    have HN := Lib.hid (show res = false from HV.out.trans (by rw [decide_eq_false k1]; simp))
    clear k1
    go_wp2_with fail
    go_ret
    exact ⟨retb HN.out.symm, HB.out⟩
set_option maxRecDepth 100000 in
set_option maxHeartbeats 1600000 in
theorem sEffAt_any (w : World) (v : Value) (l : List M.E) (serial : Int) (h : ArgT 13 evDat zeroE w v l) : Calls Try.prog 17 #[v, .int .i64 serial] w (Gives (.int .i64 (effV l serial)) w) := by
  have CP := fun W (hb : Below w.heap.size w W) => Lib.hid (sPlaceOf_any W v l 2 serial (h.below hb))
  have CS := fun W (hb : Below w.heap.size w W) win => Lib.hid (sSwapAt_any W v l win (h.below hb))
  have HAT := Lib.hid (fun W (hb : Below w.heap.size w W) j (hj : j < l.length) => argEv_at (h.below hb) j hj)
  have HV := Lib.hid (show effV l serial = if placeV l 2 serial < 0 then -1 else effE l (evAt l (placeV l 2 serial)) from rfl)
  have HPL := Lib.hid (fun q => place_lt l 2 serial q)
  obtain ⟨A, cap, rfl, h1, h2, _⟩ := h
  unfold maxLen at h2
  have hul := Try.underlying47
  generalize effV l serial = res at *
  generalize placeV l 2 serial = x at *
  go_enter Try.func17, Try.ntmps17
  go_wp2_with fail
  refine (CP _ (Below.refl _ _)).out.mono ?_
  rintro e w1 ⟨rfl, hb1⟩
  by_cases hx : x < 0
  · have d0 : decide (x < 0) = true := decide_eq_true hx
    have HN := Lib.hid (HV.out.trans (if_pos hx))
    have HB := Lib.hid hb1
    clear hx HPL HAT CS CP hb1
    go_wp2_with fail
    go_ret
    exact ⟨retn HN.out.symm, HB.out⟩
  have d0 : decide (x < 0) = false := decide_eq_false hx
  obtain ⟨j, hj, rfl⟩ := HPL.out (by omega)
  have HV2 := Lib.hid (HV.out.trans (if_neg hx))
  have he : evAt l (j : Int) = l.getD j zeroE := by unfold evAt; rw [Int.toNat_natCast]
  rw [he] at HV2
  obtain ⟨b, off, cp, vrows, hA, hc1, hc2, hb, hrng, _⟩ := HAT.out w1 hb1 j hj
  injection hA with hA1 hA2 hA3
  subst hA1
  clear hA2 hA3 hx he HV HPL HAT CP
  have hjn : (j : Int) < (l.length : Int) := by omega
  have c3 : w1.cell? ⟨b, off + j * 13 + 3, none⟩ = some (.int .i64 (l.getD j zeroE).at_) := hrng 3 _ rfl
  have c4 : w1.cell? ⟨b, off + j * 13 + 4, none⟩ = some (.int .i64 (l.getD j zeroE).op.kind) := hrng 4 _ rfl
  have c9 : w1.cell? ⟨b, off + j * 13 + 9, none⟩ = some (.int .i64 (l.getD j zeroE).win) := hrng 9 _ rfl
  clear hrng
  generalize l.getD j zeroE = ev at *
  go_wp2_with fail
  refine (CS _ hb1 _).out.mono ?_
  rintro e w2 ⟨rfl, hb2⟩
  have HB := Lib.hid (hb1.trans (hb2.mono hb1.size))
  replace c3 := (hb2.cell (p := ⟨b, off + j * 13 + 3, none⟩) hb).trans c3
  replace c4 := (hb2.cell (p := ⟨b, off + j * 13 + 4, none⟩) hb).trans c4
  replace c9 := (hb2.cell (p := ⟨b, off + j * 13 + 9, none⟩) hb).trans c9
  clear hb1 hb2 CS
  have HV3 := Lib.hid (show res = if ev.op.kind = 2 ∧ 0 ≤ ev.win ∧ 0 ≤ swapV l ev.win ∧ swapV l ev.win < ev.at_ then swapV l ev.win else ev.at_ from HV2.out)
  clear HV2
  generalize swapV l ev.win = y at *
  generalize ev.op.kind = q2 at *
  generalize ev.win = q3 at *
  generalize ev.at_ = q4 at *
  by_cases k1 : q2 = 2
  · have dk1 : (q2 == 2) = true := by rw [beq_iff_eq]; exact k1
    by_cases k2 : 0 ≤ q3
    · have dk2 : decide (q3 ≥ 0) = true := decide_eq_true k2
      by_cases k3 : 0 ≤ y
      · have dk3 : decide (y ≥ 0) = true := decide_eq_true k3
        by_cases k4 : y < q4
        · have dk4 : decide (y < q4) = true := decide_eq_true k4
          have HN := Lib.hid (HV3.out.trans (if_pos ⟨k1, k2, k3, k4⟩))
          clear HV3 k1 k2 k3 k4
          go_wp2_with fail
          go_ret
          exact ⟨retn HN.out.symm, HB.out⟩
        · have dk4 : decide (y < q4) = false := decide_eq_false k4
          have HN := Lib.hid (show res = q4 from HV3.out.trans (if_neg (fun q => by omega)))
          clear HV3
          go_wp2_with fail
          go_ret
          exact ⟨retn HN.out.symm, HB.out⟩
      · have dk3 : decide (y ≥ 0) = false := decide_eq_false k3
        have HN := Lib.hid (show res = q4 from HV3.out.trans (if_neg (fun q => by omega)))
        clear HV3
        go_wp2_with fail
        go_ret
        exact ⟨retn HN.out.symm, HB.out⟩
    · have dk2 : decide (q3 ≥ 0) = false := decide_eq_false k2
      have HN := Lib.hid (show res = q4 from HV3.out.trans (if_neg (fun q => by omega)))
      clear HV3
      go_wp2_with fail
      go_ret
      exact ⟨retn HN.out.symm, HB.out⟩
  · have dk1 : (q2 == 2) = false := by rw [beq_eq_false_iff_ne]; exact k1
    have HN := Lib.hid (show res = q4 from HV3.out.trans (if_neg (fun q => by omega)))
    clear HV3
    go_wp2_with fail
    go_ret
    exact ⟨retn HN.out.symm, HB.out⟩
set_option maxRecDepth 100000 in
set_option maxHeartbeats 1600000 in
theorem sAhead_any (w : World) (v : Value) (l : List M.E) (a c : Int) (h : ArgT 13 evDat zeroE w v l) : Calls Try.prog 19 #[v, .int .i64 a, .int .i64 c] w (Gives (.bool (aheadV l a c)) w) := by
  have CPA := fun W (hb : Below w.heap.size w W) => Lib.hid (sPlaceOf_any W v l 2 a (h.below hb))
  have CPC := fun W (hb : Below w.heap.size w W) => Lib.hid (sPlaceOf_any W v l 2 c (h.below hb))
  have CEA := fun W (hb : Below w.heap.size w W) => Lib.hid (sEffAt_any W v l a (h.below hb))
  have CEC := fun W (hb : Below w.heap.size w W) => Lib.hid (sEffAt_any W v l c (h.below hb))
  have HAT := Lib.hid (fun W (hb : Below w.heap.size w W) j (hj : j < l.length) => argEv_at (h.below hb) j hj)
  have HV := Lib.hid (show aheadV l a c = if placeV l 2 a < 0 ∨ placeV l 2 c < 0 then false else if effV l a ≠ effV l c then decide (effV l a < effV l c) else if decide ((evAt l (placeV l 2 a)).op.kind = 3) ≠ decide ((evAt l (placeV l 2 c)).op.kind = 3) then decide ((evAt l (placeV l 2 c)).op.kind = 3) else decide (placeV l 2 a < placeV l 2 c) from rfl)
  have HPA := Lib.hid (fun q => place_lt l 2 a q)
  have HPC := Lib.hid (fun q => place_lt l 2 c q)
  obtain ⟨A, cap, rfl, h1, h2, _⟩ := h
  unfold maxLen at h2
  have hul := Try.underlying47
  generalize aheadV l a c = res at *
  generalize placeV l 2 a = x at *
  generalize placeV l 2 c = y at *
  generalize effV l a = ex at *
  generalize effV l c = ey at *
  go_enter Try.func19, Try.ntmps19
  go_wp2_with fail
  refine (CPA _ (Below.refl _ _)).out.mono ?_
  rintro e w1 ⟨rfl, hb1⟩
  go_wp2_with fail
  refine (CPC _ hb1).out.mono ?_
  rintro e w2 ⟨rfl, hb2⟩
  replace hb2 := hb1.trans (hb2.mono hb1.size)
  clear hb1 CPA CPC
  by_cases hx : x < 0
  · have d0 : decide (x < 0) = true := decide_eq_true hx
    have HN := Lib.hid (HV.out.trans (if_pos (.inl hx)))
    have HB := Lib.hid hb2
    clear HPA HPC HAT CEA CEC hb2 HV
    go_wp2_with fail
    go_ret
    exact ⟨retb HN.out.symm, HB.out⟩
  have d0 : decide (x < 0) = false := decide_eq_false hx
  by_cases hy : y < 0
  · have d1 : decide (y < 0) = true := decide_eq_true hy
    have HN := Lib.hid (HV.out.trans (if_pos (.inr hy)))
    have HB := Lib.hid hb2
    clear HPA HPC HAT CEA CEC hb2 HV
    go_wp2_with fail
    go_ret
    exact ⟨retb HN.out.symm, HB.out⟩
  have d1 : decide (y < 0) = false := decide_eq_false hy
  replace HV := Lib.hid (HV.out.trans (if_neg (fun q => by omega)))
  obtain ⟨j, hj, rfl⟩ := HPA.out (by omega)
  obtain ⟨i, hi, rfl⟩ := HPC.out (by omega)
  have hea : evAt l (j : Int) = l.getD j zeroE := by unfold evAt; rw [Int.toNat_natCast]
  have hec : evAt l (i : Int) = l.getD i zeroE := by unfold evAt; rw [Int.toNat_natCast]
  rw [hea, hec] at HV
  clear hea hec HPA HPC hx hy
  go_wp2_with fail
  refine (CEA _ hb2).out.mono ?_
  rintro e w3 ⟨rfl, hb3⟩
  replace hb3 := hb2.trans (hb3.mono hb2.size)
  clear hb2
  go_wp2_with fail
  refine (CEC _ hb3).out.mono ?_
  rintro e w4 ⟨rfl, hb4⟩
  replace hb4 := hb3.trans (hb4.mono hb3.size)
  clear hb3 CEA CEC
  by_cases he : ex ≠ ey
  · have d2 : (ex != ey) = true := by rw [bne_iff_ne]; exact he
    have HN := Lib.hid (HV.out.trans (if_pos he))
    have HB := Lib.hid hb4
    clear he HV HAT hb4
    go_wp2_with fail
    go_ret
    exact ⟨retb HN.out.symm, HB.out⟩
  have d2 : (ex != ey) = false := by
    have : ex = ey := Classical.byContradiction he
    rw [this]; simp
  replace HV := Lib.hid (HV.out.trans (if_neg he))
  obtain ⟨b, off, cp, vrows, hA, hc1, hc2, hb, hrng, _⟩ := HAT.out w4 hb4 j hj
  injection hA with hA1 hA2 hA3
  subst hA1
  clear hA2 hA3
  obtain ⟨b', off', cp', vrows', hA, _, _, _, hrng', _⟩ := HAT.out w4 hb4 i hi
  injection hA with hA1 hA2 hA3
  injection hA1 with hA1
  injection hA1 with hA1 hA2'
  subst hA1
  subst hA2'
  clear hA2 hA3 he HAT
  have hjn : (j : Int) < (l.length : Int) := by omega
  have hin : (i : Int) < (l.length : Int) := by omega
  have cj : w4.cell? ⟨b, off + j * 13 + 4, none⟩ = some (.int .i64 (l.getD j zeroE).op.kind) := hrng 4 _ rfl
  have ci : w4.cell? ⟨b, off + i * 13 + 4, none⟩ = some (.int .i64 (l.getD i zeroE).op.kind) := hrng' 4 _ rfl
  clear hrng hrng'
  generalize (l.getD j zeroE).op.kind = qj at *
  generalize (l.getD i zeroE).op.kind = qi at *
  have HB := Lib.hid hb4
  clear hb4
  by_cases k1 : qj = 3
  · have e1 : (qj == 3) = true := by rw [beq_iff_eq]; exact k1
    by_cases k2 : qi = 3
    · have e2 : (qi == 3) = true := by rw [beq_iff_eq]; exact k2
      have HN := Lib.hid (show res = decide (j < i) from HV.out.trans ((if_neg (by rw [decide_eq_true k1, decide_eq_true k2]; simp)).trans (by simp)))
      clear k1 k2 HV
      go_wp2_with fail
      go_quiet (fail)
      go_wp2_with fail
      go_ret
      exact ⟨retb HN.out.symm, HB.out.trans ⟨rfl, rfl, rfl, Nat.le_refl _, fun _ _ => rfl⟩⟩
    · have e2 : (qi == 3) = false := by rw [beq_eq_false_iff_ne]; exact k2
      have HN := Lib.hid (show res = false from HV.out.trans ((if_pos (by rw [decide_eq_true k1, decide_eq_false k2]; simp)).trans (decide_eq_false k2)))
      clear k1 k2 HV
      go_wp2_with fail
      go_quiet (fail)
      go_wp2_with fail
      go_ret
      exact ⟨retb HN.out.symm, HB.out.trans ⟨rfl, rfl, rfl, Nat.le_refl _, fun _ _ => rfl⟩⟩
  · have e1 : (qj == 3) = false := by rw [beq_eq_false_iff_ne]; exact k1
    by_cases k2 : qi = 3
    · have e2 : (qi == 3) = true := by rw [beq_iff_eq]; exact k2
      have HN := Lib.hid (show res = true from HV.out.trans ((if_pos (by rw [decide_eq_false k1, decide_eq_true k2]; simp)).trans (decide_eq_true k2)))
      clear k1 k2 HV
      go_wp2_with fail
      go_quiet (fail)
      go_wp2_with fail
      go_ret
      exact ⟨retb HN.out.symm, HB.out.trans ⟨rfl, rfl, rfl, Nat.le_refl _, fun _ _ => rfl⟩⟩
    · have e2 : (qi == 3) = false := by rw [beq_eq_false_iff_ne]; exact k2
      have HN := Lib.hid (show res = decide (j < i) from HV.out.trans ((if_neg (by rw [decide_eq_false k1, decide_eq_false k2]; simp)).trans (by simp)))
      clear k1 k2 HV
      go_wp2_with fail
      go_quiet (fail)
      go_wp2_with fail
      go_ret
      exact ⟨retb HN.out.symm, HB.out.trans ⟨rfl, rfl, rfl, Nat.le_refl _, fun _ _ => rfl⟩⟩
end Go.Proofs.Ytjiaogbkmpjciaa
