/-
  Chapter 13: the model's l13Row: a row put in the place of that of its key; a quiet one is left out.
-/
import Derived.Test.YtbhhhakfjmaglaaGreatModR
namespace Go.Proofs.YtbhhhakfjmaglaaGreat
open Go.RowKit M
set_option linter.unusedVariables false
set_option linter.unusedSimpArgs false
theorem noKey_next (s : ByteArray) (l : List R) (j : Nat) (h : j < l.length) : noKey s (l.take (j + 1)) = noKey s (l.take j) ++ (if (l.getD j zeroR).key = s then [] else [l.getD j zeroR]) := by
  rw [take_next l j h]
  unfold noKey
  rw [List.filter_append]
  congr 1
  generalize l.getD j zeroR = x
  by_cases e : x.key = s <;> simp [e]
theorem noKey_len (s : ByteArray) (l : List R) : (noKey s l).length ≤ l.length := List.length_filter_le _ _
set_option maxRecDepth 100000 in
set_option maxHeartbeats 8000000 in
theorem sRowPut_any (w : World) (v : Value) (l : List R) (r : R) (h : RowsArg w v l) (hl : l.length ≤ 1048576) : Calls Tryz.prog 79 #[v, r.v] w (MadeR w (rowPutV l r)) := by
  obtain ⟨A, cap, rfl, h1, h2, h3⟩ := h
  unfold maxLen at h2
  have HNX := Lib.hid (noKey_next r.key l)
  have HTK := Lib.hid (fun j => show (noKey r.key (l.take j)).length ≤ l.length from Nat.le_trans (noKey_len _ _) (by rw [List.length_take]; omega))
  have HTL := Lib.hid (List.take_length (l := l))
  have HV := Lib.hid (show rowPutV l r = if quietV r = true then noKey r.key l else putV (noKey r.key l) r from rfl)
  have HQ := fun W => Lib.hid (sQuiet_any W r)
  have HP := fun W base v l' h hl' hb => Lib.hid (sPut_any W base v l' r h hl' hb)
  have H3 := Lib.hid h3
  have HLL := Lib.hid hl
  generalize rowPutV l r = res at *
  generalize hn : l.length = n at *
  clear h3 hn hl
  generalize quietV r = qv at *
  generalize hpv : (fun l' => putV l' r) = pv
  have HPV := Lib.hid hpv
  clear hpv
  obtain ⟨key, kind, sum, st, last, n', mn, mx, total, dropped⟩ := r
  unfold R.v at HQ HP
  unfold R.v
  simp only at *
  go_enter Tryz.func79, Tryz.ntmps79
  go_upto_region 1 with fail
  refine wp_gen (fun W => RowAt W w.heap.size ⟨key, kind, sum, st, last, n', mn, mx, total, dropped⟩ ∧ Below w.heap.size w W) ⟨rowAt_new w w.heap.size ⟨key, kind, sum, st, last, n', mn, mx, total, dropped⟩ rfl, (Below.refl _ _).alloc (Nat.le_refl _) _⟩ ?_
  rintro W ⟨g0, hb⟩
  have HZ0 := Lib.hid (show w.heap.size + 1 ≤ W.heap.size from g0.lt)
  have G0 := Lib.hid g0
  have HB := Lib.hid hb
  clear g0 hb
  go_upto_region 2 with fail
  refine wp_gen (fun W' => ∃ g, OwnR W' (w.heap.size + 1) (.slice (some ⟨g, 0, none⟩) 0 0) [] ∧ g = W.heap.size ∧ RowAt W' w.heap.size ⟨key, kind, sum, st, last, n', mn, mx, total, dropped⟩ ∧ Below w.heap.size w W') ⟨W.heap.size, OwnR.empty W _ HZ0.out, rfl, G0.out.below ((Below.refl _ _).alloc (Nat.le_refl _) _), HB.out.alloc HB.out.size _⟩ ?_
  rintro W1 ⟨g1, ho1, hg1, g0, hb⟩
  rw [← hg1]
  have HO1 := Lib.hid ho1
  clear HZ0 G0 HB hg1 ho1 W
  have G0 := Lib.hid g0
  have HB := Lib.hid hb
  clear g0 hb
  go_wp2_with fail
  go_loopw [5, 6] (fun u x wr => ∃ j : Nat, j ≤ n ∧ x = .int .i64 j ∧ OwnR wr (w.heap.size + 1) u (noKey key (l.take j)) ∧ RowAt wr w.heap.size ⟨key, kind, sum, st, last, n', mn, mx, total, dropped⟩ ∧ Below w.heap.size w wr) (fun _ x _ => n - (intOf x).toNat)
  case atStart => exact ⟨0, Nat.zero_le _, rfl, HO1.out, G0.out, HB.out⟩
  case round =>
    obtain ⟨j, hj, rfl, ho, hg, hb⟩ := hrel
    clear HO1 G0 HB
    have hlen := HTK.out j
    have hn1 := HLL.out
    obtain ⟨xA, xn, xc, rfl⟩ := own_slice ho
    have HLT := Lib.hid hg.lt
    by_cases hlt : j < n
    · obtain ⟨b, off, rfl, hbl, hc⟩ := H3.out (by omega)
      have hnx := HNX.out j (by omega)
      obtain ⟨y0, y1, y2, y3, y4, y5, y6, y7, y8, y9⟩ := ((hc j hlt).below hbl hb).get
      clear hc
      generalize l.getD j zeroR = y at *
      generalize noKey key (l.take j) = out at *
      generalize hp2 : noKey key (l.take (j + 1)) = p2 at *
      have HP2 := Lib.hid hp2
      clear hp2
      obtain ⟨key2, kind2, sum2, st2, last2, n2, mn2, mx2, total2, dropped2⟩ := y
      simp only at hnx y0 y1 y2 y3 y4 y5 y6 y7 y8 y9
      have HLN2 := Lib.hid (⟨hlen, hn1⟩ : out.length ≤ n ∧ n ≤ 1048576)
      have hjn : (j : Int) < (n : Int) := by omega
      obtain ⟨x0, x1, x2, x3, x4, x5, x6, x7, x8, x9, xf⟩ := hg.get
      simp only at x0 x1 x2 x3 x4 x5 x6 x7 x8 x9
      have HO := Lib.hid ho
      have HX := Lib.hid hg
      have HB := Lib.hid hb
      clear ho hg hb hlen hn1
      by_cases hk : key2 = key
      · rw [if_pos hk, List.append_nil] at hnx
        have HNX2 := Lib.hid hnx
        clear hnx
        subst hk
        have ym := txt_self key2
        go_wp2_with fail
        go_quiet (fail)
        go_wp2_with fail
        go_roundw
        case rel => exact ⟨j + 1, by omega, by go_num, by rw [HP2.out, HNX2.out]; exact HO.out.below (below_drewZ _ _ _), HX.out.below (below_drewZ _ _ _), HB.out.trans (below_drewZ _ _ _)⟩
        case measure => simp [intOf]; omega
      · rw [if_neg hk] at hnx
        have HNX2 := Lib.hid hnx
        clear hnx
        have ym := txt_ne hk
        go_wp2_with fail
        go_quiet (fail)
        go_wp2_with (at_builtin; refine wpR_append _ rfl _ _ rfl (w.heap.size + 1) _ _ (HO.out.below (below_drewZ _ _ _)) rfl ⟨key2, kind2, sum2, st2, last2, n2, mn2, mx2, total2, dropped2⟩ _ (rfl) rfl ?d1 ?d2 ?_; rotate_left 2; intro v' w3 hown' hgrow'; have HO3 := Lib.hid hown'; have HG := Lib.hid hgrow'; clear hown' hgrow')
        · have B3 := Lib.hid (show Below (w.heap.size + 1) wr w3 from ((below_drewZ _ _ _).alloc (by have := HLT.out; simp [go_sem]; omega) _).grown HG.out (by have := HLT.out; simp [go_sem]; omega) HO.out.base_le)
          go_roundw
          case rel => exact ⟨j + 1, by omega, by go_num, by rw [HP2.out, HNX2.out]; exact HO3.out, (B3.out.block _ (Nat.lt_succ_self _)).trans HX.out, HB.out.trans (B3.out.mono (Nat.le_succ _))⟩
          case measure => simp [intOf]; omega
        case d1 => have := HLN2.out; omega
        case d2 => have := HLT.out; simp [go_sem]; omega
    · have hjn : j = n := by omega
      subst hjn
      rw [HTL.out] at ho hlen
      have HLN2 := Lib.hid (⟨hlen, hn1⟩ : (noKey key l).length ≤ j ∧ j ≤ 1048576)
      generalize noKey key l = out at *
      obtain ⟨x0, x1, x2, x3, x4, x5, x6, x7, x8, x9, xf⟩ := hg.get
      simp only at x0 x1 x2 x3 x4 x5 x6 x7 x8 x9
      have HO := Lib.hid ho
      have HX := Lib.hid hg
      have HB := Lib.hid hb
      clear ho hg hb hlen hn1
      go_wp2_with fail
      refine (HQ _).out.mono ?_
      rintro e w2 ⟨rfl, hb2⟩
      replace HO := Lib.hid (HO.out.below hb2)
      have hx := HX.out.below hb2
      replace HX := Lib.hid hx
      replace HB := Lib.hid (HB.out.trans (hb2.mono HB.out.size))
      have HLT3 := Lib.hid (Nat.le_trans HLT.out hb2.size)
      clear hb2 x0 x1 x2 x3 x4 x5 x6 x7 x8 x9 xf
      obtain ⟨x0, x1, x2, x3, x4, x5, x6, x7, x8, x9, xf⟩ := hx.get
      simp only at x0 x1 x2 x3 x4 x5 x6 x7 x8 x9
      clear hx
      cases qv with
      | true =>
        have HR := Lib.hid (HV.out.trans (if_pos rfl))
        go_wp2_with fail
        go_ret
        exact ⟨_, rfl, by rw [HR.out]; exact OwnR.low HO.out (Nat.le_succ _), HB.out⟩
      | false =>
        have HR := Lib.hid (HV.out.trans (if_neg (by decide)))
        go_wp2_with fail
        refine (HP _ (w.heap.size + 1) _ out HO.out (by have := HLN2.out; omega) HLT3.out).out.mono ?_
        rintro e w3 ⟨v3, rfl, ho3, hb3⟩
        have HO3 := Lib.hid ho3
        replace HB := Lib.hid (HB.out.trans (hb3.mono (by have := HB.out.size; have := HLT3.out; omega)))
        clear ho3 hb3 x0 x1 x2 x3 x4 x5 x6 x7 x8 x9 xf
        go_wp2_with fail
        go_ret
        exact ⟨_, rfl, by rw [HR.out]; exact OwnR.low HO3.out (Nat.le_succ _), HB.out⟩
end Go.Proofs.YtbhhhakfjmaglaaGreat
