/-
  Contracts of chapter 2, the model's and the program's: looking at a cell; copying the row.
-/
import Derived.Test.YtagohmlochbmdaaCellA
namespace Go.Proofs.Ytagohmlochbmdaa
open Go.RowKit M
set_option linter.unusedVariables false
theorem sOk_b (w : World) (v : Value) (zs : List Int) (h : Ints w v zs) (b : Bool) (hb : okC zs = b) :
    Calls Try.prog 22 #[v] w fun e w' => e = .returned (.bool b) ∧ w = w' := by
  subst hb; exact sOk_any w v zs h
theorem iOk_b (w : World) (v : Value) (zs : List Int) (h : Ints w v zs) (b : Bool) (hb : okC zs = b) :
    Calls Try.prog 21 #[v] w fun e w' => e = .returned (.bool b) ∧ w = w' := by
  subst hb; exact iOk_any w v zs h
theorem sAt_yes (w : World) (v : Value) (zs : List Int) (i : Int) (h : Ints w v zs) (ha : atC zs i = true) :
    Calls Try.prog 38 #[v, .int .i64 i] w fun e w' => e = .returned (.bool true) ∧ w = w' := by
  obtain ⟨h0, h1, h2⟩ := atC_iff.1 ha
  have H := Lib.hid (sOk_b w v zs h true h0)
  clear ha h0 h
  go_enter Try.func38, Try.ntmps38
  go_wp2_with (first | (go_at_call 22; refine H.out.mono ?_; rintro e w' ⟨rfl, rfl⟩) | (go_at_call 39; refine (l1In_yes _ _ _ _ (by omega) (by omega)).mono ?_; rintro e w' ⟨rfl, rfl⟩))
  go_ret
  exact ⟨rfl, rfl⟩
theorem sAt_no (w : World) (v : Value) (zs : List Int) (i : Int) (h : Ints w v zs) (ha : atC zs i = false) :
    Calls Try.prog 38 #[v, .int .i64 i] w fun e w' => e = .returned (.bool false) ∧ w = w' := by
  cases hok : okC zs with
  | false =>
    have H := Lib.hid (sOk_b w v zs h false hok)
    clear ha hok h
    go_enter Try.func38, Try.ntmps38
    go_wp2_with (first | (go_at_call 22; refine H.out.mono ?_; rintro e w' ⟨rfl, rfl⟩))
    go_ret
    exact ⟨rfl, rfl⟩
  | true =>
    have H := Lib.hid (sOk_b w v zs h true hok)
    have hi : i < 0 ∨ 70 < i := by
      rcases atC_no.1 ha with h | h
      · rw [hok] at h; cases h
      · exact h
    clear ha hok h
    go_enter Try.func38, Try.ntmps38
    go_wp2_with (first | (go_at_call 22; refine H.out.mono ?_; rintro e w' ⟨rfl, rfl⟩) | (go_at_call 39; refine (l1In_no _ _ _ _ (by omega)).mono ?_; rintro e w' ⟨rfl, rfl⟩))
    go_ret
    exact ⟨rfl, rfl⟩
def Same (w : World) (v : Value) (e : Ending) (w' : World) : Prop := e = .returned v ∧ w = w'
theorem sLoad_yes (w : World) (v : Value) (zs : List Int) (i : Int) (h : Ints w v zs) (ha : atC zs i = true) :
    Calls Try.prog 25 #[v, .int .i64 i] w (Same w (.tuple #[.int .i64 (zs.getD i.toNat 0), .bool true])) := by
  have H := Lib.hid (sAt_yes w v zs i h ha)
  obtain ⟨b, off, cap, rfl, h1, h2, h3, h4⟩ := h
  obtain ⟨h0, i0, i1⟩ := atC_iff.1 ha
  have hl := okC_len h0
  obtain ⟨j, rfl⟩ := Int.eq_ofNat_of_zero_le i0
  rw [Int.toNat_natCast]
  have g1 := h4 j (by omega)
  generalize zs.getD j 0 = z at *
  have hj : j < zs.length := by omega
  generalize zs.length = n at *
  unfold maxLen at h2
  clear h4 h0 hl ha
  go_enter Try.func25, Try.ntmps25
  go_wp2_with (first | (go_at_call 38; refine H.out.mono ?_; rintro e w' ⟨rfl, rfl⟩))
  go_ret2
  exact ⟨rfl, rfl⟩
theorem sLoad_no (w : World) (v : Value) (zs : List Int) (i : Int) (h : Ints w v zs) (ha : atC zs i = false) :
    Calls Try.prog 25 #[v, .int .i64 i] w (Same w (.tuple #[.int .i64 0, .bool false])) := by
  have H := Lib.hid (sAt_no w v zs i h ha)
  clear h ha
  go_enter Try.func25, Try.ntmps25
  go_wp2_with (first | (go_at_call 38; refine H.out.mono ?_; rintro e w' ⟨rfl, rfl⟩))
  go_ret2
  exact ⟨rfl, rfl⟩
theorem iLoad_yes (w : World) (v : Value) (zs : List Int) (i : Int) (h : Ints w v zs) (ha : atC zs i = true) :
    Calls Try.prog 16 #[v, .int .i64 i] w (Same w (.tuple #[.int .i64 (zs.getD i.toNat 0), .bool true])) := by
  obtain ⟨h0, i0, i1⟩ := atC_iff.1 ha
  have H := Lib.hid (iOk_b w v zs h true h0)
  obtain ⟨b, off, cap, rfl, h1, h2, h3, h4⟩ := h
  have hl := okC_len h0
  obtain ⟨j, rfl⟩ := Int.eq_ofNat_of_zero_le i0
  rw [Int.toNat_natCast]
  have g1 := h4 j (by omega)
  generalize zs.getD j 0 = z at *
  have hj : j < zs.length := by omega
  generalize zs.length = n at *
  unfold maxLen at h2
  have t1 : decide (n ≤ j) = false := by simp; omega
  have t2 : decide ((j : Int) < 0) = false := by simp
  clear h4 h0 hl ha
  go_enter Try.func16, Try.ntmps16
  go_wp2_with (first | (go_at_call 21; refine H.out.mono ?_; rintro e w' ⟨rfl, rfl⟩))
  go_ret2
  exact ⟨rfl, rfl⟩
theorem iLoad_no (w : World) (v : Value) (zs : List Int) (i : Int) (h : Ints w v zs) (ha : atC zs i = false) :
    Calls Try.prog 16 #[v, .int .i64 i] w (Same w (.tuple #[.int .i64 0, .bool false])) := by
  by_cases i0 : i < 0
  · obtain ⟨b, off, cap, rfl, h1, h2, h3, h4⟩ := h
    have t1 : decide (i < 0) = true := by simp; omega
    clear h4 ha
    go_enter Try.func16, Try.ntmps16
    go_wp2
    go_ret2
    exact ⟨rfl, rfl⟩
  · have t1 : decide (i < 0) = false := by simp; omega
    by_cases i1 : (zs.length : Int) ≤ i
    · have t2 : decide ((zs.length : Int) ≤ i) = true := by simp; omega
      obtain ⟨b, off, cap, rfl, h1, h2, h3, h4⟩ := h
      generalize zs.length = n at *
      clear h4 ha
      go_enter Try.func16, Try.ntmps16
      go_wp2
      go_ret2
      exact ⟨rfl, rfl⟩
    · have t2 : decide ((zs.length : Int) ≤ i) = false := by simp; omega
      have hok : okC zs = false := by
        cases hok : okC zs with
        | false => rfl
        | true =>
          have := okC_len hok
          rcases atC_no.1 ha with h | h
          · rw [hok] at h; cases h
          · omega
      have H := Lib.hid (iOk_b w v zs h false hok)
      obtain ⟨b, off, cap, rfl, h1, h2, h3, h4⟩ := h
      generalize zs.length = n at *
      clear h4 ha hok
      go_enter Try.func16, Try.ntmps16
      go_wp2_with (first | (go_at_call 21; refine H.out.mono ?_; rintro e w' ⟨rfl, rfl⟩))
      go_ret2
      exact ⟨rfl, rfl⟩
/-- slices.Clone of a row hands back a new one. -/
theorem clone_any (w : World) (v : Value) (zs : List Int) (h : Ints w v zs) (hl : zs.length ≤ 1048576) :
    Calls Try.prog 35 #[v] w (MadeI w zs) := by
  obtain ⟨b, off, cap, rfl, h1, h2, h3, h4⟩ := h
  refine (Try.slices_Clone_int b off zs.length cap zs w (Nat.le_refl _) (by omega) h4).mono ?_
  rintro e w' ⟨v', rfl, ho, hne, hb⟩
  rw [List.take_length] at ho
  exact ⟨v', rfl, OwnI.of_row ho rfl hne, hb⟩
set_option maxRecDepth 100000 in
theorem copy_any (w : World) (v : Value) (zs : List Int) (h : Ints w v zs) (hl : zs.length ≤ 1048576) :
    Calls Try.prog 37 #[v] w (MadeI w zs) := by
  obtain ⟨i0, hi, hz0, hz1, hz2⟩ := info_parts info_int
  obtain ⟨b, off, cap, rfl, h1, h2, h3, h4⟩ := h
  have H4 := Lib.hid h4
  clear h4
  go_enter Try.func37, Try.ntmps37
  go_wp2_with (at_builtin; refine wpList_append_own _ rfl _ _ 24 rfl w.heap.size 3 i0 (.int .i64 0) 1 8 Try.underlying24 hi hz0 hz1 hz2 rfl (by decide) _ _ _ rfl (World.ownsRow_made w #[] 0 (Nat.le_refl _) (Nat.zero_le _) rfl) ⟨b, off, none⟩ zs.length cap (zs.map (Value.int .i64)) rfl ?qc1 ?qc2 ?qc3 ?qc4 ?qc5 ?qc6 ?_)
  case qc1 => simp
  case qc2 =>
    intro j u hj
    have hjn : j < zs.length := by
      have := (List.getElem?_eq_some_iff.1 hj).1
      simpa using this
    rw [Addr.add_lit]
    refine Lib.cell?_alloc_some _ ?_
    rw [H4.out j hjn]
    have e : (zs.map (Value.int .i64))[j]? = some (Value.int .i64 (zs.getD j 0)) := by simp [List.getD, List.getElem?_eq_getElem hjn]
    rw [e] at hj
    exact hj
  case qc3 => intro u hu; obtain ⟨x, _, rfl⟩ := List.mem_map.1 hu; rfl
  case qc4 => unfold maxLen; omega
  case qc5 => omega
  case qc6 => simp
  intro v' w1 hown hgrow hnil
  have HO := Lib.hid hown
  have HG := Lib.hid hgrow
  have HN := Lib.hid hnil
  clear hown hgrow hnil
  go_wp2
  go_ret
  refine ⟨v', rfl, OwnI.of_row (n := zs.length) (by simpa using HO.out) rfl ?_, ((Below.refl _ w).alloc (Nat.le_refl _) _).grown HG.out (by simp) (by intro k hk; simp [Value.ownBlock] at hk; omega)⟩
  exact HN.out
end Go.Proofs.Ytagohmlochbmdaa
