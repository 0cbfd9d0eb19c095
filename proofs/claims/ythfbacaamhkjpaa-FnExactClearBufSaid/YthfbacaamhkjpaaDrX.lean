/-
  Chapter 8, the model's ClearBuf and BufClear: each answers what the plain words say. They turn nothing that was there.
-/
import Derived.Test.YthfbacaamhkjpaaDrV
import Derived.Test.YthfbacaamhkjpaaCopyS
import Derived.Test.YthfbacaamhkjpaaTblS
import Derived.Test.YthfbacaamhkjpaaIntA
namespace Go.Proofs.Ythfbacaamhkjpaa
open Go.RowKit M
set_option linter.unusedVariables false
set_option linter.unusedSimpArgs false
theorem bufOk_iff {b : Int} : bufOk b = true ↔ 0 ≤ b ∧ b ≤ 1 := by simp [bufOk]
theorem slotOk_iff {b : Int} : slotOk b = true ↔ 0 ≤ b ∧ b ≤ 3 := by simp [slotOk]
theorem bufOk_no {b : Int} (h : bufOk b = false) : ¬ (0 ≤ b ∧ b ≤ 1) := by simpa [bufOk] using h
theorem slotOk_no {b : Int} (h : slotOk b = false) : ¬ (0 ≤ b ∧ b ≤ 3) := by simpa [slotOk] using h
theorem okC_fit {zs : List Int} (h : okC zs = true) : Fit zs := by
  intro z hz
  simp only [okC, Bool.and_eq_true, List.all_eq_true] at h
  have := isW_iff.1 (h.2 z hz)
  omega
theorem clearT_zero (a : List Int) (b : Int) : clearT a b 0 = a := rfl
theorem clearT_succ (a : List Int) (b : Int) (n : Nat) : clearT a b (n + 1) = (clearT a b n).set (7 + b * 32 + n).toNat 0 := by
  unfold clearT; rw [List.range_succ, List.foldl_append]; rfl
theorem clearT_len (a : List Int) (b : Int) (n : Nat) : (clearT a b n).length = a.length := by
  induction n with
  | zero => rfl
  | succ n ih => rw [clearT_succ, List.length_set, ih]
theorem clearV_len (a : List Int) (b : Int) : (clearV a b).length = a.length := by unfold clearV; split; exact clearT_len _ _ _; rfl
theorem clearV_no {a : List Int} {b : Int} (h : ¬ (okC a = true ∧ bufOk b = true)) : clearV a b = a := if_neg h
set_option maxRecDepth 100000 in
set_option maxHeartbeats 4000000 in
theorem sClearBuf_any (w : World) (v : Value) (zs : List Int) (b : Int) (h : Ints w v zs) (hl : zs.length ≤ 1048576) : Calls Try.prog 5 #[v, .int .i64 b] w (MadeI w (clearV zs b)) := by
  have HCP := Lib.hid (copy_any w v zs h hl)
  have HOK := fun W h => Lib.hid (sOk_any W v zs h)
  have HIC := fun W => Lib.hid (sIn_any b W)
  have HZ := Lib.hid h
  obtain ⟨g0, off0, cap0, rfl, _, _, _, _⟩ := h
  by_cases hok : okC zs = true ∧ bufOk b = true
  case neg =>
    have HE := Lib.hid (clearV_no hok)
    cases hc : okC zs with
    | false =>
      rw [hc] at HOK
      clear hc hok
      go_enter Try.func5, Try.ntmps5
      go_wp2_with fail
      refine HCP.out.mono ?_
      rintro e w1 ⟨x, rfl, ho, hb⟩
      have HO := Lib.hid ho
      have HB := Lib.hid hb
      have HZ1 := Lib.hid (HZ.out.below hb)
      clear ho hb
      go_wp2_with ((go_at_call 14; (with_reducible refine Calls.mono (Hid.out (HOK _ HZ1.out)) ?_); rintro e w' ⟨rfl, rfl⟩))
      go_ret
      exact ⟨_, rfl, by rw [HE.out]; exact HO.out, HB.out⟩
    | true =>
      have hbn : ¬ (0 ≤ b ∧ b ≤ 1) := fun x => hok ⟨hc, bufOk_iff.2 x⟩
      rw [inV_no hbn] at HIC
      rw [hc] at HOK
      clear hc hok hbn
      go_enter Try.func5, Try.ntmps5
      go_wp2_with fail
      refine HCP.out.mono ?_
      rintro e w1 ⟨x, rfl, ho, hb⟩
      have HO := Lib.hid ho
      have HB := Lib.hid hb
      have HZ1 := Lib.hid (HZ.out.below hb)
      clear ho hb
      go_wp2_with (first | (go_at_call 14; (with_reducible refine Calls.mono (Hid.out (HOK _ HZ1.out)) ?_); rintro e w' ⟨rfl, rfl⟩) | (go_at_call 15; (with_reducible refine Calls.mono (Hid.out (HIC _)) ?_); rintro e w' ⟨rfl, rfl⟩))
      go_ret
      exact ⟨_, rfl, by rw [HE.out]; exact HO.out, HB.out⟩
  case pos =>
    have HE := Lib.hid (show clearV zs b = clearT zs b 32 from if_pos hok)
    obtain ⟨hc, hb⟩ := hok
    rw [bufOk_iff] at hb
    obtain ⟨b0, b1⟩ := hb
    have HL71 := Lib.hid (okC_len hc)
    rw [inV_yes ⟨b0, b1⟩] at HIC
    rw [hc] at HOK
    clear hc
    go_enter Try.func5, Try.ntmps5
    go_wp2_with fail
    refine HCP.out.mono ?_
    rintro e w1 ⟨x, rfl, ho, hb⟩
    have HO := Lib.hid ho
    have HB := Lib.hid hb
    have HZ1 := Lib.hid (HZ.out.below hb)
    clear ho hb
    have i0 : decide (1 + b < 0) = false := by rw [decide_eq_false]; omega
    go_wp2_with (first | (go_at_call 14; (with_reducible refine Calls.mono (Hid.out (HOK _ HZ1.out)) ?_); rintro e w' ⟨rfl, rfl⟩) | (go_at_call 15; (with_reducible refine Calls.mono (Hid.out (HIC _)) ?_); rintro e w' ⟨rfl, rfl⟩))
    have HL := Lib.hid (fun n => clearT_len zs b n)
    obtain ⟨g, cap, rfl⟩ := HO.out.2
    rw [HL71.out] at HO ⊢
    go_loopw [6] (fun i wr => ∃ k : Nat, k ≤ 32 ∧ i = .int .i64 k ∧ OwnI wr w.heap.size (.slice (some ⟨g, 0, none⟩) 71 cap) (clearT zs b k) ∧ Below w.heap.size w wr) (fun i _ => 32 - (intOf i).toNat)
    case atStart => exact ⟨0, Nat.zero_le _, rfl, HO.out, HB.out⟩
    case round =>
      obtain ⟨k, hk, rfl, ho, hb⟩ := hrel
      clear HO HB HZ1
      by_cases hlt : k < 32
      · have d1 : (k : Int) < 32 := by omega
        obtain ⟨m, hm⟩ := Int.eq_ofNat_of_zero_le (show 0 ≤ 7 + b * 32 + (k : Int) by omega)
        have hm71 : m < 71 := by omega
        have HS := Lib.hid (show clearT zs b (k + 1) = (clearT zs b k).set m 0 by rw [clearT_succ, hm]; rfl)
        have hfz := ho.frz m
        obtain ⟨z, hzc⟩ : ∃ z, wr.cell? ⟨g, m, none⟩ = some z := ⟨_, ho.cell m hm71⟩
        have HO := Lib.hid (own_set ho m 0 hb hb.size)
        clear ho hb
        have hwm : IntKind.i64.wrap (7 + b * 32) = 7 + b * 32 := by rw [IntKind.wrap_i64]; omega
        have i1 : (m : Int) < 71 := by omega
        go_wp2_with fail
        go_roundw
        case rel => exact ⟨k + 1, by omega, by go_num, by rw [HS.out]; exact HO.out.1, HO.out.2⟩
        case measure => simp [intOf]; omega
      · have hk32 : k = 32 := by omega
        subst hk32
        have HO := Lib.hid ho
        have HB := Lib.hid hb
        clear ho hb
        go_wp2_with fail
        go_ret
        exact ⟨_, rfl, by rw [HE.out]; exact HO.out, HB.out⟩
set_option maxRecDepth 100000 in
set_option maxHeartbeats 4000000 in
theorem sBufClear_any (w : World) (v : Value) (zs : List Int) (b : Int) (h : Ints w v zs) : Calls Try.prog 11 #[v, .int .i64 b] w (Gives (.bool (bufClearV zs b)) w) := by
  have HOK := fun W h => Lib.hid (sOk_any W v zs h)
  have HIC := fun W => Lib.hid (sIn_any b W)
  have HZ1 := Lib.hid h
  obtain ⟨g, off, cap, rfl, _, hcm, hglt, h4⟩ := h
  cases hc : okC zs with
  | false =>
    have HE := Lib.hid (show bufClearV zs b = false by unfold bufClearV; rw [hc]; rfl)
    rw [hc] at HOK
    clear hc h4
    go_enter Try.func11, Try.ntmps11
    go_wp2_with ((go_at_call 14; (with_reducible refine Calls.mono (Hid.out (HOK _ HZ1.out)) ?_); rintro e w' ⟨rfl, rfl⟩))
    go_ret
    exact ⟨ret_bool HE.out.symm, Below.refl _ _⟩
  | true =>
    by_cases hb : 0 ≤ b ∧ b ≤ 1
    case neg =>
      have HE := Lib.hid (show bufClearV zs b = false by unfold bufClearV bufOk; rw [hc, decide_eq_false hb]; rfl)
      rw [hc] at HOK
      rw [inV_no hb] at HIC
      clear hc h4 hb
      go_enter Try.func11, Try.ntmps11
      go_wp2_with (first | (go_at_call 14; (with_reducible refine Calls.mono (Hid.out (HOK _ HZ1.out)) ?_); rintro e w' ⟨rfl, rfl⟩) | (go_at_call 15; (with_reducible refine Calls.mono (Hid.out (HIC _)) ?_); rintro e w' ⟨rfl, rfl⟩))
      go_ret
      exact ⟨ret_bool HE.out.symm, Below.refl _ _⟩
    case pos =>
      have HL71 := Lib.hid (okC_len hc)
      have HEV := Lib.hid (show bufClearV zs b = (List.range 32).all fun (i : Nat) => decide (zs.getD (7 + b * 32 + i).toNat 0 = 0) by unfold bufClearV bufOk; rw [hc, decide_eq_true hb]; rfl)
      rw [hc] at HOK
      rw [inV_yes hb] at HIC
      obtain ⟨b0, b1⟩ := hb
      have i0 : decide (1 + b < 0) = false := by rw [decide_eq_false]; omega
      have H4 := Lib.hid h4
      clear hc h4
      go_enter Try.func11, Try.ntmps11
      go_wp2_with (first | (go_at_call 14; (with_reducible refine Calls.mono (Hid.out (HOK _ HZ1.out)) ?_); rintro e w' ⟨rfl, rfl⟩) | (go_at_call 15; (with_reducible refine Calls.mono (Hid.out (HIC _)) ?_); rintro e w' ⟨rfl, rfl⟩))
      rw [HL71.out] at H4 ⊢
      go_loop [5] (fun i => ∃ k : Nat, k ≤ 32 ∧ i = .int .i64 k ∧ ∀ m : Nat, m < k → zs.getD (7 + b * 32 + m).toNat 0 = 0) (fun i => 32 - (intOf i).toNat)
      case atStart => exact ⟨0, Nat.zero_le _, rfl, fun m h => by omega⟩
      case round =>
        obtain ⟨k, hk, rfl, hall0⟩ := hrel
        have HA := Lib.hid hall0
        clear hall0 HZ1 HOK HIC
        by_cases hlt : k < 32
        · have d1 : (k : Int) < 32 := by omega
          obtain ⟨m, hm⟩ := Int.eq_ofNat_of_zero_le (show 0 ≤ 7 + b * 32 + (k : Int) by omega)
          have hm71 : m < 71 := by omega
          have c1 := H4.out m hm71
          have HM := Lib.hid (show zs.getD (7 + b * 32 + (k : Nat)).toNat 0 = zs.getD m 0 by rw [hm]; rfl)
          have hwm : IntKind.i64.wrap (7 + b * 32) = 7 + b * 32 := by rw [IntKind.wrap_i64]; omega
          have i1 : (m : Int) < 71 := by omega
          generalize zs.getD m 0 = z at *
          by_cases hz : z = 0
          · subst hz
            go_wp2_with fail
            go_round
            case rel => exact ⟨k + 1, by omega, by go_num, fun j hj => by
              by_cases e : j = k
              · subst e; exact HM.out
              · exact HA.out j (by omega)⟩
            case measure => simp [intOf]; omega
          · have e1 : (z != 0) = true := by rw [bne_iff_ne]; exact hz
            have HE := Lib.hid (show bufClearV zs b = false by
              rw [HEV.out, ← Bool.not_eq_true, List.all_eq_true]
              intro q
              have := q k (List.mem_range.2 hlt)
              rw [HM.out, decide_eq_true_eq] at this
              exact hz this)
            go_wp2_with fail
            go_ret
            exact ⟨ret_bool HE.out.symm, Below.refl _ _⟩
        · have HE := Lib.hid (show bufClearV zs b = true by
            rw [HEV.out, List.all_eq_true]
            intro j hj
            rw [decide_eq_true_eq]
            exact HA.out j (by have := List.mem_range.1 hj; omega))
          have d1 : decide ((k : Int) < 32) = false := by rw [decide_eq_false]; omega
          go_wp2_with fail
          go_ret
          exact ⟨ret_bool HE.out.symm, Below.refl _ _⟩
theorem list_getD_ext {x y : List Int} (hl : x.length = y.length) (h : ∀ j, j < x.length → x.getD j 0 = y.getD j 0) : x = y := by
  apply List.ext_getElem hl
  intro j h1 h2
  have := h j h1
  rw [List.getD_eq_getElem?_getD, List.getD_eq_getElem?_getD, List.getElem?_eq_getElem h1, List.getElem?_eq_getElem h2] at this
  exact this
theorem getD_setZ (zs : List Int) (i j : Nat) (h : i ≠ j) (z : Int) : (zs.set i z).getD j 0 = zs.getD j 0 := by
  rw [List.getD_eq_getElem?_getD, List.getElem?_set_ne h, List.getD_eq_getElem?_getD]
theorem getD_setZ0 (zs : List Int) (i : Nat) : (zs.set i 0).getD i 0 = 0 := by
  rw [List.getD_eq_getElem?_getD]
  by_cases h : i < zs.length
  · rw [List.getElem?_set_self h]; rfl
  · rw [List.getElem?_eq_none (by rw [List.length_set]; omega)]; rfl
/-- What clearing the first n cells of a buffer leaves. -/
theorem clearT_get {a : List Int} {b : Int} (hb : 0 ≤ b ∧ b ≤ 1) (n : Nat) (hn : n ≤ 32) (j : Nat) :
    (clearT a b n).getD j 0 = if 7 + b * 32 ≤ (j : Int) ∧ (j : Int) < 7 + b * 32 + n then 0 else a.getD j 0 := by
  induction n with
  | zero => rw [clearT_zero, if_neg (by omega)]
  | succ n ih =>
    rw [clearT_succ]
    by_cases e : (7 + b * 32 + (n : Int)).toNat = j
    · rw [← e, getD_setZ0, if_pos (by omega)]
    · rw [getD_setZ _ _ _ e, ih (by omega)]
      by_cases hin : 7 + b * 32 ≤ (j : Int) ∧ (j : Int) < 7 + b * 32 + (n : Int)
      · rw [if_pos hin, if_pos (by omega)]
      · rw [if_neg hin, if_neg (by omega)]
theorem clearV_yes {a : List Int} {b : Int} (h : okC a = true) (hb : 0 ≤ b ∧ b ≤ 1) : clearV a b = clearT a b 32 := if_pos ⟨h, bufOk_iff.2 hb⟩
end Go.Proofs.Ythfbacaamhkjpaa
