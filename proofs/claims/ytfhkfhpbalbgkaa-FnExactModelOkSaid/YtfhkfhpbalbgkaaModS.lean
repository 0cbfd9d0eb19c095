/-
  Chapter 13: the model's ModelKind and ModelRow.
-/
import Derived.Test.YtfhkfhpbalbgkaaModT
import Derived.Test.YtfhkfhpbalbgkaaZa
import Derived.Test.YtfhkfhpbalbgkaaZb
namespace Go.Proofs.Ytfhkfhpbalbgkaa
open Go.RowKit M
set_option linter.unusedVariables false
set_option linter.unusedSimpArgs false
theorem mKind_drop (s : ByteArray) (l : List KR) (j : Nat) (hj : j < l.length) : mKindV s (l.drop j) = if (l.getD j zeroKR).key = s then (l.getD j zeroKR).kind else mKindV s (l.drop (j + 1)) := by
  rw [List.drop_eq_getElem_cons hj, List.getD_eq_getElem?_getD, List.getElem?_eq_getElem hj]; rfl
theorem mFind_drop (s : ByteArray) (z : R) (l : List R) (j : Nat) (hj : j < l.length) : mFindV s z (l.drop j) = if (l.getD j zeroR).key = s then l.getD j zeroR else mFindV s z (l.drop (j + 1)) := by
  rw [List.drop_eq_getElem_cons hj, List.getD_eq_getElem?_getD, List.getElem?_eq_getElem hj]; rfl
theorem dec_txt {a b : ByteArray} (h : a = b) : (a.toList == b.toList) = true := by rw [h]; exact beq_self_eq_true _
set_option maxRecDepth 100000 in
set_option maxHeartbeats 4000000 in
theorem sModelKind_any (w : World) (m : Mo) (vk vr : Value) (s : ByteArray) (h : MoIn w m vk vr) : Calls Try.prog 12 #[.agg #[vk, vr], .string s] w (Gives (.int .i64 (mKindV s m.keys)) w) := by
  obtain ⟨A, cap, rfl, h1, h2, h3⟩ := h.keys
  clear h
  obtain ⟨xs, rs⟩ := m
  simp only at *
  unfold maxLen at h2
  have HD := Lib.hid (fun j (hj : j < xs.length) => mKind_drop s xs j hj)
  have HE := Lib.hid (show mKindV s (xs.drop xs.length) = 0 by rw [List.drop_length]; rfl)
  have HV := Lib.hid (show mKindV s xs = mKindV s (xs.drop 0) by rw [List.drop_zero])
  generalize hn : xs.length = n at *
  clear hn
  have H4 := Lib.hid h3
  clear h3
  go_enter Try.func12, Try.ntmps12
  go_upto_region 1 with fail
  refine wp_gen (fun W => Blk W w.heap.size 31 #[.slice A n cap, vr] ∧ Below w.heap.size w W) ⟨Blk.new w _ _ _ rfl, (Below.refl _ _).alloc (Nat.le_refl _) _⟩ ?_
  rintro W ⟨g0, hb⟩
  have G0 := Lib.hid g0; have HB := Lib.hid hb
  have p0 := g0.get 0
  simp at p0
  clear g0 hb
  go_wp2_with fail
  go_loopw [5] (fun i wr => ∃ j : Nat, j ≤ n ∧ i = .int .i64 j ∧ mKindV s (xs.drop 0) = mKindV s (xs.drop j) ∧ Blk wr w.heap.size 31 #[.slice A n cap, vr] ∧ Below w.heap.size w wr) (fun i _ => n - (intOf i).toNat)
  case atStart => exact ⟨0, Nat.zero_le _, rfl, rfl, G0.out, HB.out⟩
  case round =>
    obtain ⟨j, hj, rfl, he, g0, hbl⟩ := hrel
    clear p0 G0 HB
    have HQ := Lib.hid he
    have G0 := Lib.hid g0
    have p0 := g0.get 0
    simp at p0
    clear he g0
    by_cases hlt : j < n
    · obtain ⟨b, off, rfl, hb, hc⟩ := H4.out (by omega)
      obtain ⟨x0, x1⟩ := atKRow ((hc j hlt).below hb hbl)
      have HDJ := HD.out j hlt
      have HB := Lib.hid hbl
      clear hc hbl
      by_cases hk : (xs.getD j zeroKR).key = s
      · rw [if_pos hk] at HDJ
        have HN := Lib.hid (HV.out.trans (HQ.out.trans HDJ))
        clear HDJ
        generalize xs.getD j zeroKR = r at *
        obtain ⟨key, kind⟩ := r
        simp only at *
        subst hk
        have ym := txt_self key
        go_wp2_with fail
        go_ret
        exact ⟨ret_i HN.out.symm, HB.out⟩
      · rw [if_neg hk] at HDJ
        have HN := Lib.hid (HQ.out.trans HDJ)
        clear HDJ
        generalize xs.getD j zeroKR = r at *
        obtain ⟨key, kind⟩ := r
        simp only at *
        have ym := txt_ne hk
        go_wp2_with fail
        go_roundw
        case rel => exact ⟨j + 1, by omega, by go_num, HN.out, G0.out, HB.out⟩
        case measure => simp [intOf]; omega
    · have hjn : j = n := by omega
      subst hjn
      have HB := Lib.hid hbl
      have HN := Lib.hid (HV.out.trans (HQ.out.trans HE.out))
      clear hbl
      go_wp2_with fail
      go_ret
      exact ⟨ret_i HN.out.symm, HB.out⟩
end Go.Proofs.Ytfhkfhpbalbgkaa
