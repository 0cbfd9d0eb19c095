/-
  Chapter 13: the program's ModelKind and ModelRow.
-/
import Derived.Test.YtfhkfhpbalbgkabModT
import Derived.Test.YtfhkfhpbalbgkabModS
import Derived.Test.YtfhkfhpbalbgkabZa
import Derived.Test.YtfhkfhpbalbgkabZb
namespace Go.Proofs.Ytfhkfhpbalbgkab
open Go.RowKit M
set_option linter.unusedVariables false
set_option linter.unusedSimpArgs false
set_option maxRecDepth 100000 in
set_option maxHeartbeats 4000000 in
theorem iModelKind_any (w : World) (m : Mo) (vk vr : Value) (s : ByteArray) (h : MoIn w m vk vr) : Calls Try.prog 9 #[.agg #[vk, vr], .string s] w (Gives (.int .i64 (mKindV s m.keys)) w) := by
  obtain ⟨A, cap, rfl, h1, h2, h3⟩ := h.keys
  clear h
  obtain ⟨xs, rs⟩ := m
  simp only at *
  unfold maxLen at h2
  have HD := Lib.hid (fun j (hj : j < xs.length) => mKind_drop s xs j hj)
  have HE := Lib.hid (show mKindV s (xs.drop xs.length) = 0 by rw [List.drop_length]; rfl)
  have HV := Lib.hid (show mKindV s xs = mKindV s (xs.drop 0) by rw [List.drop_zero])
  generalize hn : xs.length = n at *
  clear hn
  have H4 := Lib.hid h3
  clear h3
  go_enter Try.func9, Try.ntmps9
  go_upto_region 1 with fail
  refine wp_gen (fun W => Blk W w.heap.size 31 #[.slice A n cap, vr] ∧ Below w.heap.size w W) ⟨Blk.new w _ _ _ rfl, (Below.refl _ _).alloc (Nat.le_refl _) _⟩ ?_
  rintro W ⟨g0, hb⟩
  have G0 := Lib.hid g0; have HB := Lib.hid hb
  have p0 := g0.get 0
  simp at p0
  clear g0 hb
  go_wp2_with fail
  go_loopw [10] (fun i wr => ∃ j : Nat, j ≤ n ∧ i = .int .i64 j ∧ mKindV s (xs.drop 0) = mKindV s (xs.drop j) ∧ Blk wr w.heap.size 31 #[.slice A n cap, vr] ∧ Below w.heap.size w wr) (fun i _ => n - (intOf i).toNat)
  case atStart => exact ⟨0, Nat.zero_le _, rfl, rfl, G0.out, HB.out⟩
  case round =>
    obtain ⟨j, hj, rfl, he, g0, hbl⟩ := hrel
    clear p0 G0 HB
    have HQ := Lib.hid he
    have G0 := Lib.hid g0
    have p0 := g0.get 0
    simp at p0
    clear he g0
    by_cases hlt : j < n
    · obtain ⟨b, off, rfl, hb, hc⟩ := H4.out (by omega)
      obtain ⟨x0, x1⟩ := atKRow ((hc j hlt).below hb hbl)
      have HDJ := HD.out j hlt
      have HB := Lib.hid hbl
      clear hc hbl
      by_cases hk : (xs.getD j zeroKR).key = s
      · rw [if_pos hk] at HDJ
        have HN := Lib.hid (HV.out.trans (HQ.out.trans HDJ))
        clear HDJ
        generalize xs.getD j zeroKR = r at *
        obtain ⟨key, kind⟩ := r
        simp only at *
        subst hk
        have ym := txt_self key
        go_wp2_with fail
        go_ret
        exact ⟨ret_i HN.out.symm, HB.out.alloc HB.out.size _⟩
      · rw [if_neg hk] at HDJ
        have HN := Lib.hid (HQ.out.trans HDJ)
        clear HDJ
        generalize xs.getD j zeroKR = r at *
        obtain ⟨key, kind⟩ := r
        simp only at *
        have ym := txt_ne hk
        go_wp2_with fail
        go_roundw
        case rel => exact ⟨j + 1, by omega, by go_num, HN.out, G0.out.alloc _, HB.out.alloc HB.out.size _⟩
        case measure => simp [intOf]; omega
    · have hjn : j = n := by omega
      subst hjn
      have HB := Lib.hid hbl
      have HN := Lib.hid (HV.out.trans (HQ.out.trans HE.out))
      clear hbl
      go_wp2_with fail
      go_ret
      exact ⟨ret_i HN.out.symm, HB.out⟩
set_option maxRecDepth 100000 in
set_option maxHeartbeats 4000000 in
theorem iModelRow_any (w : World) (m : Mo) (vk vr : Value) (s : ByteArray) (h : MoIn w m vk vr) : Calls Try.prog 12 #[.agg #[vk, vr], .string s] w (Gives (mRowV m s).v w) := by
  have CK := fun W (h : MoIn W m vk vr) => Lib.hid (iModelKind_any W m vk vr s h)
  have HIN := Lib.hid h
  obtain ⟨A, cap, rfl, h1, h2, h3⟩ := h.rows
  clear h
  unfold maxLen at h2
  have HD := Lib.hid (fun j (hj : j < m.rows.length) => mFind_drop s (newRow m s) m.rows j hj)
  have HE := Lib.hid (show mFindV s (newRow m s) (m.rows.drop m.rows.length) = newRow m s by rw [List.drop_length]; rfl)
  have HV := Lib.hid (show mRowV m s = mFindV s (newRow m s) (m.rows.drop 0) by rw [List.drop_zero]; rfl)
  have HNR := Lib.hid (show newRow m s = if mKindV s m.keys = 0 then zeroR else { zeroR with key := s, kind := mKindV s m.keys } from rfl)
  generalize mRowV m s = res at *
  generalize newRow m s = nr at *
  generalize mKindV s m.keys = mk at *
  generalize hn : m.rows.length = n at *
  clear hn
  have H4 := Lib.hid h3
  clear h3
  go_enter Try.func12, Try.ntmps12
  go_upto_region 1 with fail
  refine wp_gen (fun W => Blk W w.heap.size 31 #[vk, .slice A n cap] ∧ Blk W (w.heap.size + 1) 36 (rowCells zeroR) ∧ Below w.heap.size w W) ⟨(Blk.new w _ _ _ rfl).alloc _, Blk.new _ _ _ _ (by simp [go_sem]), ((Below.refl _ _).alloc (Nat.le_refl _) _).alloc (by simp [go_sem]) _⟩ ?_
  rintro W ⟨g0, g1, hb⟩
  have G0 := Lib.hid g0; have G1 := Lib.hid g1; have HB := Lib.hid hb
  have p1 := g0.get 1
  simp at p1
  clear g0 g1 hb
  go_wp2_with fail
  go_loopw [11] (fun i wr => ∃ j : Nat, j ≤ n ∧ i = .int .i64 j ∧ mFindV s nr (m.rows.drop 0) = mFindV s nr (m.rows.drop j) ∧ (Blk wr w.heap.size 31 #[vk, .slice A n cap] ∧ Blk wr (w.heap.size + 1) 36 (rowCells zeroR)) ∧ Below w.heap.size w wr) (fun i _ => n - (intOf i).toNat)
  case atStart => exact ⟨0, Nat.zero_le _, rfl, rfl, ⟨G0.out, G1.out⟩, HB.out⟩
  case round =>
    obtain ⟨j, hj, rfl, he, ⟨g0, g1⟩, hbl⟩ := hrel
    clear p1 G0 G1 HB
    have HQ := Lib.hid he
    have G0 := Lib.hid g0; have G1 := Lib.hid g1
    have p1 := g0.get 1
    simp at p1
    clear he g0 g1
    have hu := Try.underlying36
    have huM := Try.underlying31
    by_cases hlt : j < n
    · obtain ⟨b, off, rfl, hb, hc⟩ := H4.out (by omega)
      have hx := ((hc j hlt).below hb hbl).get
      have HDJ := HD.out j hlt
      have HB := Lib.hid hbl
      clear hc hbl
      by_cases hk : (m.rows.getD j zeroR).key = s
      · rw [if_pos hk] at HDJ
        have HN := Lib.hid (HV.out.trans (HQ.out.trans HDJ))
        clear HDJ
        generalize m.rows.getD j zeroR = r at *
        obtain ⟨key, kind, sum, st, last, n', mn, mx, total, dropped⟩ := r
        obtain ⟨x0, x1, x2, x3, x4, x5, x6, x7, x8, x9⟩ := hx
        simp only at *
        subst hk
        have ym := txt_self key
        go_upto_region 4 with fail
        refine wp_gen (fun W' => RowAt W' wr.heap.size ⟨key, kind, sum, st, last, n', mn, mx, total, dropped⟩ ∧ Blk W' (w.heap.size + 1) 36 (rowCells zeroR) ∧ Below w.heap.size w W') ⟨rowAt_new wr _ ⟨key, kind, sum, st, last, n', mn, mx, total, dropped⟩ rfl, G1.out.alloc _, HB.out.alloc HB.out.size _⟩ ?_
        rintro u2 ⟨hr2, g1, hb2⟩
        clear x0 x1 x2 x3 x4 x5 x6 x7 x8 x9 G0 G1 p1 HB
        have G1 := Lib.hid g1
        have HB := Lib.hid hb2
        obtain ⟨x0, x1, x2, x3, x4, x5, x6, x7, x8, x9, xf⟩ := hr2.get
        simp only at x0 x1 x2 x3 x4 x5 x6 x7 x8 x9
        clear hr2 hb2 g1
        go_wp2_with ((with_reducible show wpList _ _ _ _ _ _); first | refine wpList_store_row rfl 36 _ _ rfl (w.heap.size + 1) #[.string key, .int .i64 kind, .int .i64 sum, .bool st, .int .i64 last, .int .i64 n', .int .i64 mn, .int .i64 mx, .int .i64 total, .int .i64 dropped] rfl rfl 36 _ G1.out (by kernel_rfl) rfl (by simp [Value.oneCell']) ?_)
        refine post_gen (fun X => Blk X (w.heap.size + 1) 36 #[.string key, .int .i64 kind, .int .i64 sum, .bool st, .int .i64 last, .int .i64 n', .int .i64 mn, .int .i64 mx, .int .i64 total, .int .i64 dropped] ∧ Below w.heap.size w X) ⟨setRow_heap _ _ _ _ _ _ G1.out, below_setRow' HB.out (by omega) _⟩ ?_
        rintro X ⟨h1, hb⟩
        exact bodyPost_ret (v := .agg #[.string key, .int .i64 kind, .int .i64 sum, .bool st, .int .i64 last, .int .i64 n', .int .i64 mn, .int .i64 mx, .int .i64 total, .int .i64 dropped]) (results_cell_row rfl _ _ _ _ _ (0, 0) _ rfl h1 hu rfl (by kernel_rfl)) rfl ⟨by rw [HN.out]; rfl, hb⟩
      · rw [if_neg hk] at HDJ
        have HN := Lib.hid (HQ.out.trans HDJ)
        clear HDJ
        generalize m.rows.getD j zeroR = r at *
        obtain ⟨key, kind, sum, st, last, n', mn, mx, total, dropped⟩ := r
        obtain ⟨x0, x1, x2, x3, x4, x5, x6, x7, x8, x9⟩ := hx
        simp only at *
        have ym := txt_ne hk
        go_wp2_with fail
        go_roundw
        case rel => exact ⟨j + 1, by omega, by go_num, HN.out, ⟨G0.out.alloc _, G1.out.alloc _⟩, HB.out.alloc HB.out.size _⟩
        case measure => simp [intOf]; omega
    · have hjn : j = n := by omega
      subst hjn
      have HB := Lib.hid hbl
      have HN := Lib.hid (HV.out.trans (HQ.out.trans HE.out))
      clear hbl
      have hl0 := G0.out.lt
      clear p1
      have p0 := G0.out.get 0
      have p1 := G0.out.get 1
      simp at p0 p1
      go_wp2_with fail
      refine (CK _ (HIN.out.below HB.out)).out.mono ?_
      rintro e w2 ⟨rfl, hb2⟩
      replace G0 := Lib.hid (G0.out.below hb2)
      replace G1 := Lib.hid (G1.out.below hb2)
      replace HB := Lib.hid (HB.out.trans (hb2.mono HB.out.size))
      clear hb2 p0 p1
      have huz := G1.out.lt
      by_cases hz : mk = 0
      · have hzb : (mk == 0) = true := by rw [beq_iff_eq]; exact hz
        rw [if_pos hz] at HNR
        clear hz
        go_wp2_with ((with_reducible show wpList _ _ _ _ _ _); first | refine wpList_store_row rfl 36 _ _ rfl (w.heap.size + 1) #[.string ⟨#[]⟩, .int .i64 0, .int .i64 0, .bool false, .int .i64 0, .int .i64 0, .int .i64 0, .int .i64 0, .int .i64 0, .int .i64 0] rfl rfl 36 _ G1.out (by kernel_rfl) rfl (by simp [Value.oneCell']) ?_)
        refine post_gen (fun X => Blk X (w.heap.size + 1) 36 #[.string ⟨#[]⟩, .int .i64 0, .int .i64 0, .bool false, .int .i64 0, .int .i64 0, .int .i64 0, .int .i64 0, .int .i64 0, .int .i64 0] ∧ Below w.heap.size w X) ⟨setRow_heap _ _ _ _ _ _ G1.out, below_setRow' HB.out (by omega) _⟩ ?_
        rintro X ⟨h1, hb⟩
        exact bodyPost_ret (v := .agg #[.string ⟨#[]⟩, .int .i64 0, .int .i64 0, .bool false, .int .i64 0, .int .i64 0, .int .i64 0, .int .i64 0, .int .i64 0, .int .i64 0]) (results_cell_row rfl _ _ _ _ _ (0, 0) _ rfl h1 hu rfl (by kernel_rfl)) rfl ⟨by rw [HN.out, HNR.out]; rfl, hb⟩
      · have hzb : (mk == 0) = false := by rw [beq_eq_false_iff_ne]; exact hz
        rw [if_neg hz] at HNR
        clear hz
        go_wp2_with ((with_reducible show wpList _ _ _ _ _ _); first | refine wpList_store_row rfl 36 _ _ rfl (w.heap.size + 1) #[.string s, .int .i64 mk, .int .i64 0, .bool false, .int .i64 0, .int .i64 0, .int .i64 0, .int .i64 0, .int .i64 0, .int .i64 0] rfl rfl 36 _ G1.out (by kernel_rfl) rfl (by simp [Value.oneCell']) ?_)
        refine post_gen (fun X => Blk X (w.heap.size + 1) 36 #[.string s, .int .i64 mk, .int .i64 0, .bool false, .int .i64 0, .int .i64 0, .int .i64 0, .int .i64 0, .int .i64 0, .int .i64 0] ∧ Below w.heap.size w X) ⟨setRow_heap _ _ _ _ _ _ G1.out, below_setRow' HB.out (by omega) _⟩ ?_
        rintro X ⟨h1, hb⟩
        exact bodyPost_ret (v := .agg #[.string s, .int .i64 mk, .int .i64 0, .bool false, .int .i64 0, .int .i64 0, .int .i64 0, .int .i64 0, .int .i64 0, .int .i64 0]) (results_cell_row rfl _ _ _ _ _ (0, 0) _ rfl h1 hu rfl (by kernel_rfl)) rfl ⟨by rw [HN.out, HNR.out]; rfl, hb⟩
end Go.Proofs.Ytfhkfhpbalbgkab
