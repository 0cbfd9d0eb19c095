/-
  Chapter 12: how many events are of a kind: the model's Among and the program's.
-/
import Derived.Test.YtcfdnfckilpppaaZd
import Derived.Test.YtcfdnfckilpppaaZa
namespace Go.Proofs.Ytcfdnfckilpppaa
open Go.RowKit M
set_option linter.unusedVariables false
set_option linter.unusedSimpArgs false
theorem among_snoc (l : List M.E) (k : Int) (j : Nat) (hj : j < l.length) : (amongV (l.take (j + 1)) k : Int) = (amongV (l.take j) k : Int) + (if (l.getD j zeroE).kind = k then 1 else 0) := by
  unfold amongV
  rw [List.take_add_one, List.getElem?_eq_getElem hj, List.getD_eq_getElem?_getD, List.getElem?_eq_getElem hj, List.filter_append, List.length_append]
  simp only [Option.toList, Option.getD_some, List.filter_cons, List.filter_nil]
  split
  · rename_i h
    rw [if_pos (by simpa using h)]
    simp
  · rename_i h
    rw [if_neg (by simpa using h)]
    simp
theorem among_le (l : List M.E) (k : Int) (j : Nat) : amongV (l.take j) k ≤ j := by
  unfold amongV
  have := List.length_filter_le (fun e : M.E => decide (e.kind = k)) (l.take j)
  rw [List.length_take] at this
  omega
/-- An event that is read. -/
theorem argEv_at {w : World} {v : Value} {l : List M.E} (h : ArgT 13 evDat zeroE w v l) (j : Nat) (hj : j < l.length) :
    ∃ b off cap vrows, v = .slice (some ⟨b, off, none⟩) l.length cap ∧ l.length ≤ cap ∧ cap ≤ maxLen ∧ b < w.heap.size ∧ w.rangeAt b (off + j * 13) (evVals (l.getD j zeroE) vrows).toList ∧ evIn w (l.getD j zeroE) vrows := by
  obtain ⟨A, cap, rfl, h1, h2, h3⟩ := h
  obtain ⟨b, off, rfl, hb, hc⟩ := h3 (by omega)
  obtain ⟨vrows, hr, hi⟩ := ev_at (hc j hj)
  exact ⟨b, off, cap, vrows, rfl, h1, h2, hb, hr, hi⟩
set_option maxRecDepth 100000 in
set_option maxHeartbeats 1600000 in
theorem sAmong_any (w : World) (v : Value) (l : List M.E) (k : Int) (h : ArgT 13 evDat zeroE w v l) :
    Calls Try.prog 16 #[v, .int .i64 k] w (Gives (.int .i64 (amongV l k : Int)) w) := by
  have HAT := Lib.hid (fun W (hb : Below w.heap.size w W) j (hj : j < l.length) => argEv_at (h.below hb) j hj)
  have HSN := Lib.hid (fun j (hj : j < l.length) => among_snoc l k j hj)
  have HLE := Lib.hid (fun j => among_le l k j)
  have HTK := Lib.hid (List.take_length (l := l))
  obtain ⟨A, cap, rfl, h1, h2, _⟩ := h
  unfold maxLen at h2
  generalize hn : l.length = n at *
  clear hn
  have hul := Try.underlying56
  go_enter Try.func16, Try.ntmps16
  go_wp2_with fail
  go_loopw [5, 6] (fun c i wr => ∃ j : Nat, j ≤ n ∧ i = .int .i64 j ∧ c = .int .i64 (amongV (l.take j) k : Int) ∧ Below w.heap.size w wr) (fun _ i _ => n - (intOf i).toNat)
  case atStart => exact ⟨0, Nat.zero_le _, rfl, by simp [amongV], Below.refl _ _⟩
  case round =>
    obtain ⟨j, hj, rfl, rfl, hbl⟩ := hrel
    by_cases hlt : j < n
    · obtain ⟨b, off, cp, vrows, hA, hc1, hc2, hb, hrng, _⟩ := HAT.out wr hbl j hlt
      have hA0 := hA
      injection hA with hA1 hA2 hA3
      subst hA1
      clear hA0 hA2 hA3
      have hjn : (j : Int) < (n : Int) := by omega
      have c0 : wr.cell? ⟨b, off + j * 13, none⟩ = some (.int .i64 (l.getD j zeroE).kind) := hrng 0 _ rfl
      have HS := Lib.hid (HSN.out j hlt)
      have hle := HLE.out j
      have HB := Lib.hid hbl
      clear hrng HAT HSN HLE hbl
      generalize (l.getD j zeroE).kind = q at *
      obtain ⟨c, hc⟩ : ∃ c : Int, (amongV (l.take j) k : Int) = c := ⟨_, rfl⟩
      rw [hc] at HS ⊢
      have hcb : 0 ≤ c ∧ c ≤ j := by omega
      clear hc hle
      by_cases hk : q = k
      · have d1 : (q == k) = true := by rw [beq_iff_eq]; exact hk
        have HS2 := Lib.hid (HS.out.trans (by rw [if_pos hk]))
        clear HS hk
        go_wp2_with fail
        go_roundw
        case rel => exact ⟨j + 1, by omega, by go_num, by rw [HS2.out], HB.out⟩
        case measure => simp [intOf]; omega
      · have d1 : (q == k) = false := by rw [beq_eq_false_iff_ne]; exact hk
        have HS2 := Lib.hid (HS.out.trans (by rw [if_neg hk, Int.add_zero]))
        clear HS hk
        go_wp2_with fail
        go_roundw
        case rel => exact ⟨j + 1, by omega, by go_num, by rw [HS2.out], HB.out⟩
        case measure => simp [intOf]; omega
    · have hjn : j = n := by omega
      subst hjn
      have hltz : ¬ (j : Int) < (j : Int) := by omega
      have HB := Lib.hid hbl
      clear hbl
      rw [HTK.out]
      go_wp2_with fail
      go_ret
      exact ⟨rfl, HB.out⟩
set_option maxRecDepth 100000 in
set_option maxHeartbeats 1600000 in
theorem iAmong_any (w : World) (v : Value) (l : List M.E) (k : Int) (h : ArgT 13 evDat zeroE w v l) :
    Calls Try.prog 18 #[v, .int .i64 k] w (Gives (.int .i64 (amongV l k : Int)) w) := by
  have HAT := Lib.hid (fun W (hb : Below w.heap.size w W) j (hj : j < l.length) => argEv_at (h.below hb) j hj)
  have HSN := Lib.hid (fun j (hj : j < l.length) => among_snoc l k j hj)
  have HLE := Lib.hid (fun j => among_le l k j)
  have HTK := Lib.hid (List.take_length (l := l))
  obtain ⟨A, cap, rfl, h1, h2, _⟩ := h
  unfold maxLen at h2
  generalize hn : l.length = n at *
  clear hn
  have hul := Try.underlying56
  go_enter Try.func18, Try.ntmps18
  go_wp2_with fail
  go_loopw [5, 10] (fun c i wr => ∃ j : Nat, j ≤ n ∧ i = .int .i64 j ∧ c = .int .i64 (amongV (l.take j) k : Int) ∧ Below w.heap.size w wr) (fun _ i _ => n - (intOf i).toNat)
  case atStart => exact ⟨0, Nat.zero_le _, rfl, by simp [amongV], Below.refl _ _⟩
  case round =>
    obtain ⟨j, hj, rfl, rfl, hbl⟩ := hrel
    by_cases hlt : j < n
    · obtain ⟨b, off, cp, vrows, hA, hc1, hc2, hb, hrng, hev⟩ := HAT.out wr hbl j hlt
      have hA0 := hA
      injection hA with hA1 hA2 hA3
      subst hA1
      clear hA0 hA2 hA3
      have hjn : (j : Int) < (n : Int) := by omega
      have HR := Lib.hid hrng
      obtain ⟨A1, c1, rfl⟩ : ∃ A1 c1, vrows = .slice A1 (l.getD j zeroE).rows.length c1 := by obtain ⟨A1, c1, e, _⟩ := hev; exact ⟨A1, c1, e⟩
      clear hev
      have HS := Lib.hid (HSN.out j hlt)
      have hle := HLE.out j
      have HB := Lib.hid hbl
      clear hrng HAT HSN HLE hbl
      generalize l.getD j zeroE = r at *
      have hoc := ev_one r A1 r.rows.length c1
      go_upto_region 5 with ((with_reducible show wpList _ _ _ _ _ _); first | refine wpList_load_mid rfl 56 _ rfl b (off + j * 13) rfl (evVals r (.slice A1 r.rows.length c1)).toList _ HR.out hul rfl (by kernel_rfl) ?_ | refine wpList_store_row rfl 56 _ _ rfl wr.heap.size (evVals r (.slice A1 r.rows.length c1)) rfl rfl 56 _ (Blk.new wr wr.heap.size 56 #[.int .i64 0, .int .i64 0, .int .i64 0, .int .i64 0, .int .i64 0, .string ⟨#[]⟩, .int .i64 0, .int .i64 0, .int .i64 0, .int .i64 0, .int .i64 0, .int .i64 0, .slice none 0 0] rfl) (by kernel_rfl) rfl hoc ?_)
      refine wp_gen (fun W => Blk W wr.heap.size 56 (evVals r (.slice A1 r.rows.length c1)) ∧ Below wr.heap.size wr W) ⟨setRow_heap _ _ _ _ _ _ (Blk.new wr wr.heap.size 56 #[.int .i64 0, .int .i64 0, .int .i64 0, .int .i64 0, .int .i64 0, .string ⟨#[]⟩, .int .i64 0, .int .i64 0, .int .i64 0, .int .i64 0, .int .i64 0, .int .i64 0, .slice none 0 0] rfl), below_setRow' (below_oneL wr _) (Nat.le_refl _) _⟩ ?_
      rintro W ⟨hx, hbx⟩
      have c0 : W.cell? ⟨wr.heap.size, 0, none⟩ = some (.int .i64 r.kind) := hx.get 0
      have HB := Lib.hid (HB.out.trans (hbx.mono HB.out.size))
      clear hx hbx HR hoc
      generalize r.kind = q at *
      obtain ⟨c, hc⟩ : ∃ c : Int, (amongV (l.take j) k : Int) = c := ⟨_, rfl⟩
      rw [hc] at HS ⊢
      have hcb : 0 ≤ c ∧ c ≤ j := by omega
      clear hc hle
      by_cases hk : q = k
      · have d1 : (q == k) = true := by rw [beq_iff_eq]; exact hk
        have HS2 := Lib.hid (HS.out.trans (by rw [if_pos hk]))
        clear HS hk
        go_wp2_with fail
        go_roundw
        case rel => exact ⟨j + 1, by omega, by go_num, by rw [HS2.out], HB.out⟩
        case measure => simp [intOf]; omega
      · have d1 : (q == k) = false := by rw [beq_eq_false_iff_ne]; exact hk
        have HS2 := Lib.hid (HS.out.trans (by rw [if_neg hk, Int.add_zero]))
        clear HS hk
        go_wp2_with fail
        go_roundw
        case rel => exact ⟨j + 1, by omega, by go_num, by rw [HS2.out], HB.out⟩
        case measure => simp [intOf]; omega
    · have hjn : j = n := by omega
      subst hjn
      have hltz : ¬ (j : Int) < (j : Int) := by omega
      have HB := Lib.hid hbl
      clear hbl
      rw [HTK.out]
      go_wp2_with fail
      go_ret
      exact ⟨rfl, HB.out⟩
end Go.Proofs.Ytcfdnfckilpppaa
