/-
  Texts of this seat, laid together.
-/
import Derived.Test.YtnlepnfdgdbkoaaGreatDoorYZa
section
namespace Go.Proofs.YtnlepnfdgdbkoaaGreatDoor
open Go.RowKit M
set_option linter.unusedVariables false
def RowAt (w : World) (g : Nat) (r : R) : Prop := w.heap[g]? = some (.cells (rowCells r) 55 (0, 0))
theorem RowAt.lt {w : World} {g : Nat} {r : R} (h : RowAt w g r) : g < w.heap.size := by
  rcases Nat.lt_or_ge g w.heap.size with h1 | h1
  · exact h1
  · unfold RowAt at h; rw [Array.getElem?_eq_none h1] at h; cases h
theorem RowAt.below {w w' : World} {g : Nat} {r : R} (h : RowAt w g r) (hb : Below w.heap.size w w') : RowAt w' g r := (hb.block g h.lt).trans h
theorem RowAt.get {w : World} {g : Nat} {r : R} (h : RowAt w g r) :
    w.cell? ⟨g, 0, none⟩ = some (.string r.key) ∧ w.cell? ⟨g, 1, none⟩ = some (.int .i64 r.kind) ∧ w.cell? ⟨g, 2, none⟩ = some (.int .i64 r.sum) ∧ w.cell? ⟨g, 3, none⟩ = some (.bool r.set) ∧ w.cell? ⟨g, 4, none⟩ = some (.int .i64 r.last) ∧
    w.cell? ⟨g, 5, none⟩ = some (.int .i64 r.n) ∧ w.cell? ⟨g, 6, none⟩ = some (.int .i64 r.mn) ∧ w.cell? ⟨g, 7, none⟩ = some (.int .i64 r.mx) ∧ w.cell? ⟨g, 8, none⟩ = some (.int .i64 r.total) ∧ w.cell? ⟨g, 9, none⟩ = some (.int .i64 r.dropped) ∧ (∀ k, w.frozen? ⟨g, k, none⟩ = false) := by
  unfold RowAt at h
  refine ⟨?_, ?_, ?_, ?_, ?_, ?_, ?_, ?_, ?_, ?_, fun k => by simp [World.frozen?, h]⟩ <;> (rw [cell_of_row w g _ _ _ _ h]; rfl)
theorem rowAt_new (w : World) (g : Nat) (r : R) (hg : g = w.heap.size) : RowAt (w.alloc (.cells (rowCells r) 55)) g r := by subst hg; exact heap_alloc_new w _
theorem RowAt.alloc {w : World} {g : Nat} {r : R} (h : RowAt w g r) (o : Obj) : RowAt (w.alloc o) g r := h.below ((Below.refl _ _).alloc (Nat.le_refl _) o)
theorem below_row {B : Nat} {w w2 : World} {g : Nat} (h : Below B w w2) (hg : B ≤ g) (v0 v1 v2 v3 v4 v5 v6 v7 v8 v9 : Value) :
    Below B w ((((((((((w2.setCell ⟨g, 0, none⟩ v0).setCell ⟨g, 1, none⟩ v1).setCell ⟨g, 2, none⟩ v2).setCell ⟨g, 3, none⟩ v3).setCell ⟨g, 4, none⟩ v4).setCell ⟨g, 5, none⟩ v5).setCell ⟨g, 6, none⟩ v6).setCell ⟨g, 7, none⟩ v7).setCell ⟨g, 8, none⟩ v8).setCell ⟨g, 9, none⟩ v9) :=
  (((((((((h.setCell hg _).setCell hg _).setCell hg _).setCell hg _).setCell hg _).setCell hg _).setCell hg _).setCell hg _).setCell hg _).setCell hg _
end Go.Proofs.YtnlepnfdgdbkoaaGreatDoor
end
section
namespace Go.Proofs.YtnlepnfdgdbkoaaGreatDoor
open Go.RowKit M
set_option linter.unusedVariables false
theorem keyByte_any (c : Nat) (w : World) (hc : c < 256) : Calls Tryz.prog 92 #[.int .u8 c] w (Same w (.bool (keyB c))) := by
  by_cases h1 : 97 ≤ c
  · by_cases h1' : c ≤ 122
    · have E := Lib.hid (show keyB c = true by simp [keyB]; omega)
      go_enter Tryz.func92, Tryz.ntmps92
      go_wp2
      all_goals first | (exfalso; omega) | (go_ret; exact ⟨ret_bool E.out.symm, rfl⟩)
    · have E := Lib.hid (show keyB c = false by simp [keyB]; omega)
      have e95 : ((c : Int) == 95) = false := by rw [beq_eq_false_iff_ne]; omega
      go_enter Tryz.func92, Tryz.ntmps92
      go_wp2
      all_goals first | (exfalso; omega) | (go_ret; exact ⟨ret_bool E.out.symm, rfl⟩)
  · by_cases h2 : 65 ≤ c
    · by_cases h2' : c ≤ 90
      · have E := Lib.hid (show keyB c = true by simp [keyB]; omega)
        go_enter Tryz.func92, Tryz.ntmps92
        go_wp2
        all_goals first | (exfalso; omega) | (go_ret; exact ⟨ret_bool E.out.symm, rfl⟩)
      · by_cases h4 : c = 95
        · subst h4
          go_enter Tryz.func92, Tryz.ntmps92
          go_wp2
          go_ret
          exact ⟨rfl, rfl⟩
        · have E := Lib.hid (show keyB c = false by simp [keyB]; omega)
          have e95 : ((c : Int) == 95) = false := by rw [beq_eq_false_iff_ne]; omega
          go_enter Tryz.func92, Tryz.ntmps92
          go_wp2
          all_goals first | (exfalso; omega) | (go_ret; exact ⟨ret_bool E.out.symm, rfl⟩)
    · have e95 : ((c : Int) == 95) = false := by rw [beq_eq_false_iff_ne]; omega
      by_cases h3 : 48 ≤ c ∧ c ≤ 57
      · have E := Lib.hid (show keyB c = true by simp [keyB]; omega)
        obtain ⟨h3, h3'⟩ := h3
        go_enter Tryz.func92, Tryz.ntmps92
        go_wp2
        all_goals first | (exfalso; omega) | (go_ret; exact ⟨ret_bool E.out.symm, rfl⟩)
      · have E := Lib.hid (show keyB c = false by simp [keyB]; omega)
        by_cases h5 : 48 ≤ c
        · have h6 : 57 < c := by omega
          go_enter Tryz.func92, Tryz.ntmps92
          go_wp2
          all_goals first | (exfalso; omega) | (go_ret; exact ⟨ret_bool E.out.symm, rfl⟩)
        · go_enter Tryz.func92, Tryz.ntmps92
          go_wp2
          all_goals first | (exfalso; omega) | (go_ret; exact ⟨ret_bool E.out.symm, rfl⟩)
set_option maxRecDepth 100000 in
theorem iKeyOk_same (w : World) (s : ByteArray) (hs : s.size ≤ maxLen) : Calls Tryz.prog 68 #[.string s] w (Same w (.bool (keyOkV s))) := by
  unfold maxLen at hs
  by_cases h4 : 1 ≤ s.size ∧ s.size ≤ 4
  · obtain ⟨h40, h41⟩ := h4
    have d1 : decide ((s.size : Int) < 1) = false := by simp; omega
    have d2 : decide ((4 : Int) < (s.size : Int)) = false := by simp; omega
    go_enter Tryz.func68, Tryz.ntmps68
    go_wp2
    go_loop [3, 14] (fun _ i => ∃ j : Nat, j ≤ s.size ∧ i = .int .i64 j ∧ AllB s j) (fun _ i => s.size - (intOf i).toNat)
    case atStart => exact ⟨0, Nat.zero_le _, rfl, AllB.zero _⟩
    case round =>
      obtain ⟨j, hj, rfl, ha⟩ := hrel
      have HA := Lib.hid ha
      clear ha
      by_cases hlt : j < s.size
      · have hc := s[j].toNat_lt
        have HB := Lib.hid (keyByte_any s[j].toNat w (by omega))
        cases hk : keyB s[j].toNat with
        | true =>
          have HN := Lib.hid (HA.out.next hlt hk)
          rw [hk] at HB
          clear hk
          go_wp2_with (go_at_call 92; refine HB.out.mono ?_; rintro e w' ⟨rfl, rfl⟩)
          go_round
          case rel => exact ⟨j + 1, by omega, by go_num, HN.out⟩
          case measure => simp [intOf]; omega
        | false =>
          have HN := Lib.hid (keyOkV_no hlt hk)
          rw [hk] at HB
          clear hk
          go_wp2_with (go_at_call 92; refine HB.out.mono ?_; rintro e w' ⟨rfl, rfl⟩)
          go_ret
          exact ⟨ret_bool HN.out.symm, rfl⟩
      · obtain rfl : j = s.size := by omega
        have HN := Lib.hid (keyOkV_iff.2 ⟨⟨h40, h41⟩, HA.out⟩)
        go_wp2
        go_ret
        exact ⟨ret_bool HN.out.symm, rfl⟩
  · have HN := Lib.hid (keyOkV_size h4)
    by_cases h0 : s.size < 1
    · have d1 : decide ((s.size : Int) < 1) = true := by simp; omega
      go_enter Tryz.func68, Tryz.ntmps68
      go_wp2
      go_ret
      exact ⟨ret_bool HN.out.symm, rfl⟩
    · have d1 : decide ((s.size : Int) < 1) = false := by simp; omega
      have d2 : decide ((4 : Int) < (s.size : Int)) = true := by simp; omega
      go_enter Tryz.func68, Tryz.ntmps68
      go_wp2
      go_ret
      exact ⟨ret_bool HN.out.symm, rfl⟩
theorem iPack_same (w : World) (s : ByteArray) (hs : s.size ≤ maxLen) : Calls Tryz.prog 119 #[.string s] w (Same w (.int .i64 (packV s : Nat))) := by
  have HOK := Lib.hid (iKeyOk_same w s hs)
  cases hk : keyOkV s with
  | false =>
    have E := Lib.hid (show packV s = 0 by unfold packV; rw [hk]; rfl)
    rw [hk] at HOK
    clear hk
    go_enter Tryz.func119, Tryz.ntmps119
    go_wp2_with (go_at_call 68; refine HOK.out.mono ?_; rintro e w' ⟨rfl, rfl⟩)
    go_ret
    exact ⟨ret_i (by rw [E.out]; rfl), rfl⟩
  | true =>
    have h4 := (keyOkV_iff.1 hk).1
    have E := Lib.hid (show packV s = be (s.data.toList.take s.size) by unfold packV; rw [if_pos hk, List.take_of_length_le (by simp)])
    have HR := Lib.hid (iRf_good s s.size w hs h4.1 (by omega) (Nat.le_refl _))
    rw [hk] at HOK
    clear hk
    generalize be (s.data.toList.take s.size) = r at *
    go_enter Tryz.func119, Tryz.ntmps119
    go_wp2_with (first | (go_at_call 68; refine HOK.out.mono ?_; rintro e w' ⟨rfl, rfl⟩) | (go_at_call 128; refine HR.out.mono ?_; rintro e w' ⟨rfl, rfl⟩))
    go_ret
    exact ⟨ret_i (by rw [E.out]), rfl⟩
theorem xor_u32 {a b : Nat} (ha : a < 4294967296) (hb : b < 4294967296) : bits .xor .u32 (a : Int) (b : Int) = ((a ^^^ b : Nat) : Int) := by
  have hlt : a ^^^ b < 2 ^ 32 := Nat.xor_lt_two_pow (by omega) (by omega)
  have ka : (BitVec.ofInt 32 (a : Int)).toNat = a := by rw [BitVec.toNat_ofInt]; omega
  have kb : (BitVec.ofInt 32 (b : Int)).toNat = b := by rw [BitVec.toNat_ofInt]; omega
  show IntKind.u32.wrap ((BitVec.ofInt 32 (a : Int) ^^^ BitVec.ofInt 32 (b : Int)).toNat : Nat) = _
  rw [BitVec.toNat_xor, ka, kb, IntKind.wrap_u32]
  omega
set_option maxRecDepth 100000 in
theorem iHash_same (w : World) (s : ByteArray) (hs : s.size ≤ maxLen) : Calls Tryz.prog 115 #[.string s] w (Same w (.int .i64 (hashV s : Nat))) := by
  unfold maxLen at hs
  go_enter Tryz.func115, Tryz.ntmps115
  go_wp2
  go_loop [3, 4, 7] (fun h _ i => ∃ j : Nat, j ≤ s.size ∧ i = .int .i64 j ∧ h = .int .u32 (hashT (s.data.toList.take j) : Nat)) (fun _ _ i => s.size - (intOf i).toNat)
  case atStart => exact ⟨0, Nat.zero_le _, rfl, rfl⟩
  case round =>
    obtain ⟨j, hj, rfl, rfl⟩ := hrel
    by_cases hlt : j < s.size
    · have hb := hashT_lt (s.data.toList.take j)
      have hc := s[j].toNat_lt
      have HS := Lib.hid (hashT_take s j hlt)
      have HN := Lib.hid (hash_next (hashT (s.data.toList.take j)) s[j].toNat)
      generalize hashT (s.data.toList.take j) = h at *
      have hx := xor_u32 (a := h) (b := s[j].toNat) hb (by omega)
      have hx2 := xor_lt32 (a := h) (b := s[j].toNat) hb (by omega)
      generalize h ^^^ s[j].toNat = x at *
      go_wp2
      go_round
      case rel => exact ⟨j + 1, by omega, by go_num, by rw [HS.out, ← HN.out]⟩
      case measure => simp [intOf]; omega
    · obtain rfl : j = s.size := by omega
      have E := Lib.hid (show hashV s = hashT (s.data.toList.take s.size) by unfold hashV; rw [List.take_of_length_le (by simp)])
      have hb := hashT_lt (s.data.toList.take s.size)
      generalize hashT (s.data.toList.take s.size) = h at *
      go_wp2
      go_ret
      exact ⟨ret_i (by rw [E.out]), rfl⟩
set_option maxRecDepth 100000 in
theorem iProbe_same (w : World) (s : ByteArray) (n : Int) (hs : s.size ≤ maxLen) : Calls Tryz.prog 93 #[.string s, .int .i64 n] w (Same w (.int .i64 (probeV s n))) := by
  have HOK := Lib.hid (iKeyOk_same w s hs)
  have HH := Lib.hid (iHash_same w s hs)
  have hh := hashT_lt s.data.toList
  rw [show hashT s.data.toList = hashV s from rfl] at hh
  cases hk : keyOkV s with
  | false =>
    have E := Lib.hid (show probeV s n = -1 by unfold probeV; rw [if_neg (by rw [hk]; simp)])
    rw [hk] at HOK
    clear hk hh
    go_enter Tryz.func93, Tryz.ntmps93
    go_wp2_with (go_at_call 68; refine HOK.out.mono ?_; rintro e w' ⟨rfl, rfl⟩)
    go_ret
    exact ⟨ret_i E.out.symm, rfl⟩
  | true =>
    rw [hk] at HOK
    by_cases hn : 0 ≤ n ∧ n ≤ 3
    · have E := Lib.hid (show probeV s n = ((hashV s : Int) + n) % 4 by unfold probeV; rw [if_pos ⟨hk, hn⟩])
      obtain ⟨n0, n1⟩ := hn
      generalize hashV s = h at *
      clear hk
      go_enter Tryz.func93, Tryz.ntmps93
      go_wp2_with (first | (go_at_call 68; refine HOK.out.mono ?_; rintro e w' ⟨rfl, rfl⟩) | (go_at_call 44; refine (isIdx_yes _ _ _ (by omega) (by omega)).mono ?_; rintro e w' ⟨rfl, rfl⟩) | (go_at_call 115; refine HH.out.mono ?_; rintro e w' ⟨rfl, rfl⟩))
      go_ret
      exact ⟨ret_i E.out.symm, rfl⟩
    · have E := Lib.hid (show probeV s n = -1 by unfold probeV; rw [if_neg (fun h => hn h.2)])
      clear hk hh
      go_enter Tryz.func93, Tryz.ntmps93
      go_wp2_with (first | (go_at_call 68; refine HOK.out.mono ?_; rintro e w' ⟨rfl, rfl⟩) | (go_at_call 44; refine (isIdx_no _ _ _ (by omega)).mono ?_; rintro e w' ⟨rfl, rfl⟩))
      go_ret
      exact ⟨ret_i E.out.symm, rfl⟩
theorem same_gives {f : FuncId} {args : Array Value} {w : World} {v : Value} (h : Calls Tryz.prog f args w (Same w v)) : Calls Tryz.prog f args w (Gives v w) := h.mono fun _ _ k => gives_same k
end Go.Proofs.YtnlepnfdgdbkoaaGreatDoor
end
section
namespace Go.Proofs.YtnlepnfdgdbkoaaGreatDoor
open Go.RowKit M
set_option linter.unusedVariables false
set_option linter.unusedSimpArgs false
theorem beq0 (x : Int) : (x == 0) = decide (x = 0) := by by_cases h : x = 0 <;> simp [h]
end Go.Proofs.YtnlepnfdgdbkoaaGreatDoor
end
section
namespace Go.Proofs.YtnlepnfdgdbkoaaGreatDoor
open Go.RowKit M
set_option linter.unusedVariables false
set_option linter.unusedSimpArgs false
theorem rowOk_key {r : R} (h : keyOkV r.key = false) : rowOkV r = false := by unfold rowOkV; rw [h]; rfl
theorem rowOk_1 {r : R} (h : keyOkV r.key = true) (hk : r.kind = 1) : rowOkV r = countV r := by unfold rowOkV; rw [h, if_pos hk]; rfl
theorem rowOk_2 {r : R} (h : keyOkV r.key = true) (hk : r.kind = 2) : rowOkV r = gaugeRV r := by unfold rowOkV; rw [h, if_neg (by omega), if_pos hk]; rfl
theorem rowOk_3 {r : R} (h : keyOkV r.key = true) (hk : r.kind = 3) : rowOkV r = (decide (r.sum = 0 ∧ r.set = false ∧ r.last = 0) && timerV r) := by unfold rowOkV; rw [h, if_neg (by omega), if_neg (by omega), if_pos hk]; rfl
theorem rowOk_no {r : R} (hk : ¬ (r.kind = 1 ∨ r.kind = 2 ∨ r.kind = 3)) : rowOkV r = false := by unfold rowOkV; rw [if_neg (by omega), if_neg (by omega), if_neg (by omega), Bool.and_false]
end Go.Proofs.YtnlepnfdgdbkoaaGreatDoor
end
section
namespace Go.Proofs.YtnlepnfdgdbkoaaGreatDoor
open Go.RowKit M
set_option linter.unusedVariables false
set_option linter.unusedSimpArgs false
instance decO : DecidableEq O := fun a b =>
  if h : a.kind = b.kind ∧ a.key = b.key ∧ a.what = b.what ∧ a.val = b.val then
    .isTrue (by
      obtain ⟨h0, h1, h2, h3⟩ := h
      cases a; cases b
      simp only at *
      subst h0; subst h1; subst h2; subst h3
      rfl)
  else .isFalse (fun e => h (by subst e; exact ⟨rfl, rfl, rfl, rfl⟩))
theorem stood_op : Tryz.prog.stoodInHeld 36 = false := by kernel_rfl
set_option maxRecDepth 100000 in
set_option maxHeartbeats 4000000 in
theorem eql_op (w : World) (r s : O) : (binOp .eql 36 r.v s.v).run Tryz.prog w = .ok (.bool (decide (r = s))) w := by
  obtain ⟨kind, key, what, val⟩ := r
  obtain ⟨kind', key', what', val'⟩ := s
  unfold O.v
  rw [run_eql_struct, run_equalIn_struct _ _ _ _ _ (by kernel_rfl) stood_op]
  by_cases e0 : kind = kind'
  · subst e0
    by_cases e1 : key = key'
    · subst e1
      by_cases e2 : what = what'
      · subst e2
        by_cases e3 : val = val'
        · subst e3; simp [go_sem]
        · simp [go_sem, e3]
      · simp [go_sem, e2]
    · have e := txt_ne e1
      simp [go_sem, e, e1]
  · simp [go_sem, e0]
theorem opOk_1 {o : O} (h : o.kind = 1) : opOkV o = (keyOkV o.key && (decide (1 ≤ o.what ∧ o.what ≤ 3) && decide (o.val = 0))) := if_pos h
theorem opOk_2 {o : O} (h : o.kind = 2) : opOkV o = (keyOkV o.key && (decide (o.what = 0) && decide (0 ≤ o.val ∧ o.val ≤ 65535))) := by unfold opOkV; rw [if_neg (by omega), if_pos h]
theorem opOk_3 {o : O} (h : o.kind = 3) : opOkV o = isFlushO o := by unfold opOkV; rw [if_neg (by omega), if_neg (by omega), if_pos h]
theorem opOk_no {o : O} (h1 : o.kind ≠ 1) (h2 : o.kind ≠ 2) (h3 : o.kind ≠ 3) : opOkV o = false := by unfold opOkV; rw [if_neg h1, if_neg h2, if_neg h3]
theorem flush_eq (o : O) : isFlushO o = decide (o = ⟨3, ⟨#[]⟩, 0, 0⟩) := by
  obtain ⟨kind, key, what, val⟩ := o
  unfold isFlushO
  congr 1
  simp
end Go.Proofs.YtnlepnfdgdbkoaaGreatDoor
end
