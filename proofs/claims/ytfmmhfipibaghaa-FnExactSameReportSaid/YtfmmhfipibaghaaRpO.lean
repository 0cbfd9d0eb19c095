/-
  Chapter 7 on rows of rows: ReportOk, in plain words and the model's.
-/
import Derived.Test.YtfmmhfipibaghaaRpS
import Derived.Test.YtfmmhfipibaghaaHq
import Derived.Laws.Cover1
namespace Go.Proofs.Ytfmmhfipibaghaa
open Go.RowKit M
set_option linter.unusedVariables false
/-- x is not behind y, byte by byte. -/
def strLe (x y : ByteArray) : Bool := Go.Op.bytesLess x.toList y.toList || x.toList == y.toList
/-- Is the row at place i not as a report has it? -/
def badAt (rs : List R) (i : Nat) : Bool := !rowOkV (rs.getD i zeroR) || (quietV (rs.getD i zeroR) || (decide (0 < i) && strLe (rs.getD i zeroR).key (rs.getD (i - 1) zeroR).key))
def reportOkV (rs : List R) : Bool := decide (rs.length ≤ 4) && (List.range rs.length).all fun i => !badAt rs i
def GoodTo (rs : List R) (j : Nat) : Prop := ∀ m, m < j → badAt rs m = false
theorem GoodTo.zero (rs : List R) : GoodTo rs 0 := fun m h => absurd h (Nat.not_lt_zero _)
theorem GoodTo.next {rs : List R} {j : Nat} (h : GoodTo rs j) (k : badAt rs j = false) : GoodTo rs (j + 1) := fun m hm => by
  by_cases e : m = j
  · subst e; exact k
  · exact h m (by omega)
theorem reportOk_bad {rs : List R} {j : Nat} (hj : j < rs.length) (h : badAt rs j = true) : reportOkV rs = false := by
  unfold reportOkV
  rw [Bool.and_eq_false_iff]
  right
  rw [← Bool.not_eq_true, List.all_eq_true]
  intro k
  have := k j (List.mem_range.2 hj)
  rw [h] at this; cases this
theorem reportOk_all {rs : List R} (h : GoodTo rs rs.length) : reportOkV rs = decide ((rs.length : Int) ≤ 4) := by
  have e : ((List.range rs.length).all fun i => !badAt rs i) = true := by
    rw [List.all_eq_true]
    intro i hi
    rw [h i (List.mem_range.1 hi)]; rfl
  unfold reportOkV
  rw [e, Bool.and_true]
  congr 1
  simp only [eq_iff_iff]
  omega
/-- What the walk keeps while it reads a row and the key ahead of it. -/
def RpHeld (w0 : World) (b : Nat) (w : World) : Prop := Below w0.heap.size w0 w ∧ b < w0.heap.size
def RowHeld (w0 : World) (b o p : Nat) (r : R) (pk : ByteArray) (w : World) : Prop :=
  w.cell? ⟨b, o, none⟩ = some (.string r.key) ∧ w.cell? ⟨b, o + 1, none⟩ = some (.int .i64 r.kind) ∧ w.cell? ⟨b, o + 2, none⟩ = some (.int .i64 r.sum) ∧ w.cell? ⟨b, o + 3, none⟩ = some (.bool r.set) ∧ w.cell? ⟨b, o + 4, none⟩ = some (.int .i64 r.last) ∧
  w.cell? ⟨b, o + 5, none⟩ = some (.int .i64 r.n) ∧ w.cell? ⟨b, o + 6, none⟩ = some (.int .i64 r.mn) ∧ w.cell? ⟨b, o + 7, none⟩ = some (.int .i64 r.mx) ∧ w.cell? ⟨b, o + 8, none⟩ = some (.int .i64 r.total) ∧ w.cell? ⟨b, o + 9, none⟩ = some (.int .i64 r.dropped) ∧
  w.cell? ⟨b, p, none⟩ = some (.string pk) ∧ RpHeld w0 b w
theorem RowHeld.next {w0 w1 w2 : World} {b o p : Nat} {r : R} {pk : ByteArray} (hb : Below w1.heap.size w1 w2) (h : RowHeld w0 b o p r pk w1) : RowHeld w0 b o p r pk w2 := by
  obtain ⟨h0, h1, h2, h3, h4, h5, h6, h7, h8, h9, hp, hw, hlt⟩ := h
  have lt : b < w1.heap.size := Nat.lt_of_lt_of_le hlt hw.size
  exact ⟨(hb.cell (p := ⟨b, o, none⟩) lt).trans h0, (hb.cell (p := ⟨b, o + 1, none⟩) lt).trans h1, (hb.cell (p := ⟨b, o + 2, none⟩) lt).trans h2, (hb.cell (p := ⟨b, o + 3, none⟩) lt).trans h3, (hb.cell (p := ⟨b, o + 4, none⟩) lt).trans h4,
    (hb.cell (p := ⟨b, o + 5, none⟩) lt).trans h5, (hb.cell (p := ⟨b, o + 6, none⟩) lt).trans h6, (hb.cell (p := ⟨b, o + 7, none⟩) lt).trans h7, (hb.cell (p := ⟨b, o + 8, none⟩) lt).trans h8, (hb.cell (p := ⟨b, o + 9, none⟩) lt).trans h9,
    (hb.cell (p := ⟨b, p, none⟩) lt).trans hp, hw.trans (hb.mono hw.size), hlt⟩
theorem RowHeld.drew {w0 w1 : World} {b o p : Nat} {r : R} {pk : ByteArray} (h : RowHeld w0 b o p r pk w1) : RowHeld w0 b o p r pk w1.drew := h.next (below_drew _ _)
theorem rowHeld_get {w0 w1 : World} {b o p : Nat} {key : ByteArray} {kind sum : Int} {st : Bool} {last n mn mx total dropped : Int} {pk : ByteArray} (h : RowHeld w0 b o p ⟨key, kind, sum, st, last, n, mn, mx, total, dropped⟩ pk w1) :
    w1.cell? ⟨b, o, none⟩ = some (.string key) ∧ w1.cell? ⟨b, o + 1, none⟩ = some (.int .i64 kind) ∧ w1.cell? ⟨b, o + 2, none⟩ = some (.int .i64 sum) ∧ w1.cell? ⟨b, o + 3, none⟩ = some (.bool st) ∧ w1.cell? ⟨b, o + 4, none⟩ = some (.int .i64 last) ∧
      w1.cell? ⟨b, o + 5, none⟩ = some (.int .i64 n) ∧ w1.cell? ⟨b, o + 6, none⟩ = some (.int .i64 mn) ∧ w1.cell? ⟨b, o + 7, none⟩ = some (.int .i64 mx) ∧ w1.cell? ⟨b, o + 8, none⟩ = some (.int .i64 total) ∧ w1.cell? ⟨b, o + 9, none⟩ = some (.int .i64 dropped) ∧ w1.cell? ⟨b, p, none⟩ = some (.string pk) ∧ RpHeld w0 b w1 := h
theorem rowHeld_bel {w0 w1 : World} {b : Nat} {p0 p1 p2 p3 p4 p5 p6 p7 p8 p9 pp : Prop} (h : p0 ∧ p1 ∧ p2 ∧ p3 ∧ p4 ∧ p5 ∧ p6 ∧ p7 ∧ p8 ∧ p9 ∧ pp ∧ RpHeld w0 b w1) : Below w0.heap.size w0 w1 := h.2.2.2.2.2.2.2.2.2.2.2.1
theorem bad_row {rs : List R} {j : Nat} (h : rowOkV (rs.getD j zeroR) = false) : badAt rs j = true := by unfold badAt; rw [h]; rfl
theorem bad_quiet {rs : List R} {j : Nat} (h : rowOkV (rs.getD j zeroR) = true) (k : quietV (rs.getD j zeroR) = true) : badAt rs j = true := by unfold badAt; rw [h, k]; rfl
theorem bad_first {rs : List R} (h : rowOkV (rs.getD 0 zeroR) = true) (k : quietV (rs.getD 0 zeroR) = false) : badAt rs 0 = false := by unfold badAt; rw [h, k]; rfl
theorem bad_next {rs : List R} {m : Nat} (h : rowOkV (rs.getD (m + 1) zeroR) = true) (k : quietV (rs.getD (m + 1) zeroR) = false) : badAt rs (m + 1) = strLe (rs.getD (m + 1) zeroR).key (rs.getD m zeroR).key := by
  unfold badAt; rw [h, k]; simp
set_option maxRecDepth 100000 in
set_option maxHeartbeats 8000000 in
theorem sReportOk_any (w : World) (v : Value) (rs : List R) (h : RowsArg w v rs) (hk : ∀ j, j < rs.length → (rs.getD j zeroR).key.size ≤ maxLen) : Calls Try.prog 25 #[v] w (Gives (.bool (reportOkV rs)) w) := by
  obtain ⟨A, cap, rfl, h1, h2, h3⟩ := h
  unfold maxLen at h2
  have HALL := Lib.hid (fun (q : GoodTo rs rs.length) => reportOk_all q)
  have HBAD := Lib.hid (fun j (hj : j < rs.length) (hb : badAt rs j = true) => reportOk_bad hj hb)
  have HKS := Lib.hid hk
  generalize rs.length = n at *
  have H4 := Lib.hid h3
  clear h3 hk
  go_enter Try.func25, Try.ntmps25
  go_wp2_with fail
  go_loopw [3] (fun i wr => ∃ j : Nat, j ≤ n ∧ i = .int .i64 j ∧ GoodTo rs j ∧ Below w.heap.size w wr) (fun i _ => n - (intOf i).toNat)
  case atStart => exact ⟨0, Nat.zero_le _, rfl, GoodTo.zero _, Below.refl _ _⟩
  case round =>
    obtain ⟨j, hj, rfl, hg, hbl⟩ := hrel
    have HG := Lib.hid hg
    clear hg
    by_cases hlt : j < n
    · obtain ⟨b, off, rfl, hb, hc⟩ := H4.out (by omega)
      have HO := fun W => Lib.hid (sRowOk_any W (rs.getD j zeroR) (HKS.out j hlt))
      have HQ := fun W => Lib.hid (sQuiet_any W (rs.getD j zeroR))
      have HBD := Lib.hid (HBAD.out j hlt)
      have HN := Lib.hid (fun q => HG.out.next (j := j) q)
      have hr := ((hc j hlt).below hb hbl).get
      cases hok : rowOkV (rs.getD j zeroR) with
      | false =>
        have HB1 := Lib.hid (HBD.out (bad_row hok))
        rw [hok] at HO
        have HS := Lib.hid (RowHeld.drew (⟨hr.1, hr.2.1, hr.2.2.1, hr.2.2.2.1, hr.2.2.2.2.1, hr.2.2.2.2.2.1, hr.2.2.2.2.2.2.1, hr.2.2.2.2.2.2.2.1, hr.2.2.2.2.2.2.2.2.1, hr.2.2.2.2.2.2.2.2.2, hr.1, hbl, hb⟩ : RowHeld w b (off + j * 10) (off + j * 10) (rs.getD j zeroR) _ wr))
        clear hc hbl hr hok
        generalize rs.getD j zeroR = r at *
        obtain ⟨key, kind, sum, st, last, n', mn, mx, total, dropped⟩ := r
        unfold R.v at HO HQ
        simp only at *
        go_wp2_with fail
        have hall : ∀ p : Prop, (∀ W, RowHeld w b (off + j * 10) (off + j * 10) ⟨key, kind, sum, st, last, n', mn, mx, total, dropped⟩ key W → p) ↔ p := fun p => ⟨fun h => h _ HS.out, fun h _ _ => h⟩
        refine wp_region_wq (C := RowHeld w b (off + j * 10) (off + j * 10) ⟨key, kind, sum, st, last, n', mn, mx, total, dropped⟩ key) (by kernel_rfl) (by kernel_rfl) HS.out ?_
        repeat (refine WQ.step (fun K hK => ?_); go_simp; first | (refine hK _ ?_; clear hK K) | (apply Exists.intro; refine ⟨fun W hW => ?_, hK _ ?_⟩; (focus (first | (go_at_call 14; refine (HO W).out.mono ?_; rintro e w' ⟨rfl, hb'⟩; exact ⟨rfl, hW.next hb'⟩) | (go_at_call 22; refine (HQ W).out.mono ?_; rintro e w' ⟨rfl, hb'⟩; exact ⟨rfl, hW.next hb'⟩) | exact rfl | (obtain ⟨y0, y1, y2, y3, y4, y5, y6, y7, y8, y9, y10, hy⟩ := rowHeld_get hW; go_simp; rfl))); clear hK K))
        refine WQ.nil ?_
        intro w2 hw2
        have HW2 := hw2.2.2.2.2.2.2.2.2.2.2.2.1
        clear hw2
        go_wp2_with fail
        go_ret
        exact ⟨ret_bool HB1.out.symm, HW2⟩
      | true =>
        cases hqu : quietV (rs.getD j zeroR) with
        | true =>
          have HB1 := Lib.hid (HBD.out (bad_quiet hok hqu))
          rw [hok] at HO
          rw [hqu] at HQ
          have HS := Lib.hid (RowHeld.drew (⟨hr.1, hr.2.1, hr.2.2.1, hr.2.2.2.1, hr.2.2.2.2.1, hr.2.2.2.2.2.1, hr.2.2.2.2.2.2.1, hr.2.2.2.2.2.2.2.1, hr.2.2.2.2.2.2.2.2.1, hr.2.2.2.2.2.2.2.2.2, hr.1, hbl, hb⟩ : RowHeld w b (off + j * 10) (off + j * 10) (rs.getD j zeroR) _ wr))
          clear hc hbl hr hok hqu
          generalize rs.getD j zeroR = r at *
          obtain ⟨key, kind, sum, st, last, n', mn, mx, total, dropped⟩ := r
          unfold R.v at HO HQ
          simp only at *
          go_wp2_with fail
          have hall : ∀ p : Prop, (∀ W, RowHeld w b (off + j * 10) (off + j * 10) ⟨key, kind, sum, st, last, n', mn, mx, total, dropped⟩ key W → p) ↔ p := fun p => ⟨fun h => h _ HS.out, fun h _ _ => h⟩
          refine wp_region_wq (C := RowHeld w b (off + j * 10) (off + j * 10) ⟨key, kind, sum, st, last, n', mn, mx, total, dropped⟩ key) (by kernel_rfl) (by kernel_rfl) HS.out ?_
          repeat (refine WQ.step (fun K hK => ?_); go_simp; first | (refine hK _ ?_; clear hK K) | (apply Exists.intro; refine ⟨fun W hW => ?_, hK _ ?_⟩; (focus (first | (go_at_call 14; refine (HO W).out.mono ?_; rintro e w' ⟨rfl, hb'⟩; exact ⟨rfl, hW.next hb'⟩) | (go_at_call 22; refine (HQ W).out.mono ?_; rintro e w' ⟨rfl, hb'⟩; exact ⟨rfl, hW.next hb'⟩) | exact rfl | (obtain ⟨y0, y1, y2, y3, y4, y5, y6, y7, y8, y9, y10, hy⟩ := rowHeld_get hW; go_simp; rfl))); clear hK K))
          refine WQ.nil ?_
          intro w2 hw2
          have HW2 := hw2.2.2.2.2.2.2.2.2.2.2.2.1
          clear hw2
          go_wp2_with fail
          go_ret
          exact ⟨ret_bool HB1.out.symm, HW2⟩
        | false =>
          cases j with
          | zero =>
            have HB1 := Lib.hid (bad_first hok hqu)
            rw [hok] at HO
            rw [hqu] at HQ
            have HS := Lib.hid (RowHeld.drew (⟨hr.1, hr.2.1, hr.2.2.1, hr.2.2.2.1, hr.2.2.2.2.1, hr.2.2.2.2.2.1, hr.2.2.2.2.2.2.1, hr.2.2.2.2.2.2.2.1, hr.2.2.2.2.2.2.2.2.1, hr.2.2.2.2.2.2.2.2.2, hr.1, hbl, hb⟩ : RowHeld w b (off + 0 * 10) (off + 0 * 10) (rs.getD 0 zeroR) _ wr))
            clear hc hbl hr hok hqu
            generalize rs.getD 0 zeroR = r at *
            obtain ⟨key, kind, sum, st, last, n', mn, mx, total, dropped⟩ := r
            unfold R.v at HO HQ
            simp only at *
            go_wp2_with fail
            have hall : ∀ p : Prop, (∀ W, RowHeld w b (off + 0 * 10) (off + 0 * 10) ⟨key, kind, sum, st, last, n', mn, mx, total, dropped⟩ key W → p) ↔ p := fun p => ⟨fun h => h _ HS.out, fun h _ _ => h⟩
            refine wp_region_wq (C := RowHeld w b (off + 0 * 10) (off + 0 * 10) ⟨key, kind, sum, st, last, n', mn, mx, total, dropped⟩ key) (by kernel_rfl) (by kernel_rfl) HS.out ?_
            repeat (refine WQ.step (fun K hK => ?_); go_simp; first | (refine hK _ ?_; clear hK K) | (apply Exists.intro; refine ⟨fun W hW => ?_, hK _ ?_⟩; (focus (first | (go_at_call 14; refine (HO W).out.mono ?_; rintro e w' ⟨rfl, hb'⟩; exact ⟨rfl, hW.next hb'⟩) | (go_at_call 22; refine (HQ W).out.mono ?_; rintro e w' ⟨rfl, hb'⟩; exact ⟨rfl, hW.next hb'⟩) | exact rfl | (obtain ⟨y0, y1, y2, y3, y4, y5, y6, y7, y8, y9, y10, hy⟩ := rowHeld_get hW; go_simp; rfl))); clear hK K))
            refine WQ.nil ?_
            intro w2 hw2
            have HW2 := hw2.2.2.2.2.2.2.2.2.2.2.2.1
            clear hw2
            go_wp2_with fail
            go_roundw
            case rel => exact ⟨1, by omega, by go_num, HN.out HB1.out, HW2⟩
            case measure => simp [intOf]; omega
          | succ m =>
            have hbn := bad_next hok hqu
            rw [hok] at HO
            rw [hqu] at HQ
            cases hle : strLe (rs.getD (m + 1) zeroR).key (rs.getD m zeroR).key with
            | true =>
              have HB1 := Lib.hid (HBD.out (hbn.trans hle))
              clear hbn
              have hp := ((hc m (by omega)).below hb hbl).get
              have HS := Lib.hid (RowHeld.drew (⟨hr.1, hr.2.1, hr.2.2.1, hr.2.2.2.1, hr.2.2.2.2.1, hr.2.2.2.2.2.1, hr.2.2.2.2.2.2.1, hr.2.2.2.2.2.2.2.1, hr.2.2.2.2.2.2.2.2.1, hr.2.2.2.2.2.2.2.2.2, hp.1, hbl, hb⟩ : RowHeld w b (off + (m + 1) * 10) (off + m * 10) (rs.getD (m + 1) zeroR) _ wr))
              clear hc hbl hr hok hqu hp
              generalize rs.getD (m + 1) zeroR = r at *
              generalize (rs.getD m zeroR).key = pk at *
              obtain ⟨key, kind, sum, st, last, n', mn, mx, total, dropped⟩ := r
              unfold R.v at HO HQ
              simp only at *
              unfold strLe at hle
              have i1 : (m : Int) + 1 < (n : Int) := by omega
              have i2 : (m : Int) < (n : Int) := by omega
              have i3 : ((m : Int) + 1).toNat = m + 1 := by omega
              have i4 : decide ((0 : Int) < (m : Int) + 1) = true := by rw [decide_eq_true_eq]; omega
              have i5 : (0 : Int) ≤ (m : Int) + 1 := by omega
              have i6 : (m : Int) ≤ 9223372036854775807 := by omega
              have i7 : IntKind.i64.wrap (m : Int) = (m : Int) := by rw [IntKind.wrap_i64]; omega
              go_wp2_with fail
              have hall : ∀ p : Prop, (∀ W, RowHeld w b (off + (m + 1) * 10) (off + m * 10) ⟨key, kind, sum, st, last, n', mn, mx, total, dropped⟩ pk W → p) ↔ p := fun p => ⟨fun h => h _ HS.out, fun h _ _ => h⟩
              refine wp_region_wq (C := RowHeld w b (off + (m + 1) * 10) (off + m * 10) ⟨key, kind, sum, st, last, n', mn, mx, total, dropped⟩ pk) (by kernel_rfl) (by kernel_rfl) HS.out ?_
              repeat (refine WQ.step (fun K hK => ?_); go_simp; first | (refine hK _ ?_; clear hK K) | (apply Exists.intro; refine ⟨fun W hW => ?_, hK _ ?_⟩; (focus (first | (go_at_call 14; refine (HO W).out.mono ?_; rintro e w' ⟨rfl, hb'⟩; exact ⟨rfl, hW.next hb'⟩) | (go_at_call 22; refine (HQ W).out.mono ?_; rintro e w' ⟨rfl, hb'⟩; exact ⟨rfl, hW.next hb'⟩) | exact rfl | (obtain ⟨y0, y1, y2, y3, y4, y5, y6, y7, y8, y9, y10, hy⟩ := rowHeld_get hW; go_simp; rfl))); clear hK K))
              refine WQ.nil ?_
              intro w2 hw2
              have HW2 := hw2.2.2.2.2.2.2.2.2.2.2.2.1
              clear hw2
              go_wp2_with fail
              go_ret
              exact ⟨ret_bool HB1.out.symm, HW2⟩
            | false =>
              have HB1 := Lib.hid (hbn.trans hle)
              clear hbn
              have hp := ((hc m (by omega)).below hb hbl).get
              have HS := Lib.hid (RowHeld.drew (⟨hr.1, hr.2.1, hr.2.2.1, hr.2.2.2.1, hr.2.2.2.2.1, hr.2.2.2.2.2.1, hr.2.2.2.2.2.2.1, hr.2.2.2.2.2.2.2.1, hr.2.2.2.2.2.2.2.2.1, hr.2.2.2.2.2.2.2.2.2, hp.1, hbl, hb⟩ : RowHeld w b (off + (m + 1) * 10) (off + m * 10) (rs.getD (m + 1) zeroR) _ wr))
              clear hc hbl hr hok hqu hp
              generalize rs.getD (m + 1) zeroR = r at *
              generalize (rs.getD m zeroR).key = pk at *
              obtain ⟨key, kind, sum, st, last, n', mn, mx, total, dropped⟩ := r
              unfold R.v at HO HQ
              simp only at *
              unfold strLe at hle
              have i1 : (m : Int) + 1 < (n : Int) := by omega
              have i2 : (m : Int) < (n : Int) := by omega
              have i3 : ((m : Int) + 1).toNat = m + 1 := by omega
              have i4 : decide ((0 : Int) < (m : Int) + 1) = true := by rw [decide_eq_true_eq]; omega
              have i5 : (0 : Int) ≤ (m : Int) + 1 := by omega
              have i6 : (m : Int) ≤ 9223372036854775807 := by omega
              have i7 : IntKind.i64.wrap (m : Int) = (m : Int) := by rw [IntKind.wrap_i64]; omega
              go_wp2_with fail
              have hall : ∀ p : Prop, (∀ W, RowHeld w b (off + (m + 1) * 10) (off + m * 10) ⟨key, kind, sum, st, last, n', mn, mx, total, dropped⟩ pk W → p) ↔ p := fun p => ⟨fun h => h _ HS.out, fun h _ _ => h⟩
              refine wp_region_wq (C := RowHeld w b (off + (m + 1) * 10) (off + m * 10) ⟨key, kind, sum, st, last, n', mn, mx, total, dropped⟩ pk) (by kernel_rfl) (by kernel_rfl) HS.out ?_
              repeat (refine WQ.step (fun K hK => ?_); go_simp; first | (refine hK _ ?_; clear hK K) | (apply Exists.intro; refine ⟨fun W hW => ?_, hK _ ?_⟩; (focus (first | (go_at_call 14; refine (HO W).out.mono ?_; rintro e w' ⟨rfl, hb'⟩; exact ⟨rfl, hW.next hb'⟩) | (go_at_call 22; refine (HQ W).out.mono ?_; rintro e w' ⟨rfl, hb'⟩; exact ⟨rfl, hW.next hb'⟩) | exact rfl | (obtain ⟨y0, y1, y2, y3, y4, y5, y6, y7, y8, y9, y10, hy⟩ := rowHeld_get hW; go_simp; rfl))); clear hK K))
              refine WQ.nil ?_
              intro w2 hw2
              have HW2 := hw2.2.2.2.2.2.2.2.2.2.2.2.1
              clear hw2
              go_wp2_with fail
              go_roundw
              case rel => exact ⟨m + 2, by omega, by go_num, HN.out HB1.out, HW2⟩
              case measure => simp [intOf]; omega
    · have hjn : j = n := by omega
      subst hjn
      have HN := Lib.hid (HALL.out HG.out)
      have HB := Lib.hid hbl
      clear hbl
      go_wp2_with fail
      go_ret
      exact ⟨ret_bool HN.out.symm, HB.out⟩
end Go.Proofs.Ytfmmhfipibaghaa
