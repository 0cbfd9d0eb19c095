/-
  Chapter 13, the program: the row of a key struck out: slices.IndexFunc and slices.DeleteFunc at the literal that compares a row's key with the one it captured.
-/
import Derived.Test.YtbhhhakfjmaglaaGreatDrM
import Derived.Test.YtbhhhakfjmaglaaGreatZa
import Derived.Test.YtbhhhakfjmaglaaGreatZb
namespace Go.Proofs.YtbhhhakfjmaglaaGreat
open Go.RowKit M
set_option linter.unusedVariables false
set_option linter.unusedSimpArgs false
theorem below_oneH (w : World) (o : Obj) : Below w.heap.size w (w.alloc o) := (Below.refl _ _).alloc (Nat.le_refl _) o
def keyB (s : ByteArray) (r : R) : Bool := decide (r.key = s)
def keyAt (s : ByteArray) (rs : List R) (k : Nat) : Prop := ∀ j, j < k → keyB s (rs.getD j zeroR) = false
def IdxK (w : World) (s : ByteArray) (rs : List R) (e : Ending) (w' : World) : Prop := ((e = .returned (.int .i64 (-1)) ∧ keyAt s rs rs.length) ∨ ∃ k : Nat, k < rs.length ∧ e = .returned (.int .i64 k) ∧ keyAt s rs k ∧ keyB s (rs.getD k zeroR) = true) ∧ Below w.heap.size w w'
def keepK (s : ByteArray) (rs : List R) (j : Nat) : Bool := !keyB s (rs.getD j zeroR)
theorem keepK_all (s : ByteArray) (rs : List R) : keptL (keepK s rs) rs rs.length = noKey s rs := keptL_filter (fun r => !keyB s r) rs
theorem filterK_none {s : ByteArray} {rs : List R} (h : keyAt s rs rs.length) : noKey s rs = rs := by
  rw [← keepK_all, keptL_all (Nat.le_refl _) (fun j hj => by unfold keepK; rw [h j hj]; rfl), List.take_length]
set_option maxRecDepth 100000 in
set_option maxHeartbeats 4000000 in
theorem iEqC_any (w : World) (p : Nat) (s : ByteArray) (r : R) (hp : Blk w p 9 #[.string s]) : Calls Tryz.prog 75 #[r.v, .pointer (some ⟨p, 0, none⟩)] w (Gives (.bool (keyB s r)) w) := by
  obtain ⟨key, kind, sum, st, last, n, mn, mx, total, dropped⟩ := r
  unfold R.v keyB
  simp only
  have x0 := hp.get 0
  simp at x0
  have hlt := hp.lt
  clear hp
  by_cases h : key = s
  · subst h
    have hd : decide (key = key) = true := by simp
    rw [hd]
    have hs := txt_self key
    go_enter Tryz.func75, Tryz.ntmps75
    go_wp2_with fail
    go_ret
    exact ⟨rfl, (Below.refl _ _).alloc (Nat.le_refl _) _⟩
  · have hd : decide (key = s) = false := by simp [h]
    rw [hd]
    have hs := txt_ne h
    clear h hd
    go_enter Tryz.func75, Tryz.ntmps75
    go_wp2_with fail
    go_ret
    exact ⟨rfl, (Below.refl _ _).alloc (Nat.le_refl _) _⟩
set_option maxRecDepth 100000 in
set_option maxHeartbeats 4000000 in
theorem iIdxK_any (w : World) (v : Value) (rs : List R) (p : Nat) (s : ByteArray) (h : RowsArg w v rs) (hp : Blk w p 9 #[.string s]) : Calls Tryz.prog 100 #[v, .func (.func 75) #[] #[.pointer (some ⟨p, 0, none⟩)]] w (IdxK w s rs) := by
  obtain ⟨A, cap, rfl, h1, h2, h3⟩ := h
  unfold maxLen at h2
  have HI := Lib.hid (fun (e : Ending) (w' : World) (h : ((e = .returned (.int .i64 (-1)) ∧ keyAt s rs rs.length) ∨ ∃ k : Nat, k < rs.length ∧ e = .returned (.int .i64 k) ∧ keyAt s rs k ∧ keyB s (rs.getD k zeroR) = true)) (hb : Below w.heap.size w w') => show IdxK w s rs e w' from ⟨h, hb⟩)
  have HP := Lib.hid hp
  clear hp
  generalize hn : rs.length = n at *
  have HNL := Lib.hid hn
  clear hn
  have H3 := Lib.hid h3
  clear h3
  go_enter Tryz.func100, Tryz.ntmps100
  go_wp2_with fail
  go_loopw [8] (fun i wr => ∃ j : Nat, j ≤ n ∧ i = .int .i64 j ∧ keyAt s rs j ∧ Below w.heap.size w wr) (fun i _ => n - (intOf i).toNat)
  case atStart => exact ⟨0, Nat.zero_le _, rfl, fun j hj => absurd hj (Nat.not_lt_zero _), Below.refl _ _⟩
  case round =>
    obtain ⟨j, hj, rfl, hq, hbl⟩ := hrel
    have HQ := Lib.hid hq
    clear hq
    by_cases hlt : j < n
    · obtain ⟨b, off, rfl, hb, hc⟩ := H3.out (by omega)
      obtain ⟨x0, x1, x2, x3, x4, x5, x6, x7, x8, x9⟩ := ((hc j hlt).below hb hbl).get
      have HPR := Lib.hid (HP.out.below hbl)
      have HC := fun W (hb : Below wr.heap.size wr W) => Lib.hid (iEqC_any W p s (rs.getD j zeroR) (HPR.out.below hb))
      have HB := Lib.hid hbl
      have HQ2 := Lib.hid (fun (q : keyB s (rs.getD j zeroR) = false) => (show keyAt s rs (j + 1) from fun i hi => by
        by_cases e : i = j
        · subst e; exact q
        · exact HQ.out i (by omega)))
      have HQ3 := Lib.hid (fun (q : keyB s (rs.getD j zeroR) = true) => q)
      clear hc hbl
      generalize hr : rs.getD j zeroR = r at *
      have HR := Lib.hid hr
      clear hr
      cases hq : keyB s r with
      | true =>
        rw [hq] at HC
        obtain ⟨key, kind, sum, st, last, n', mn, mx, total, dropped⟩ := r
        unfold R.v at HC
        simp only at *
        go_wp2_with fail
        refine (HC _ (by first | exact Below.refl _ _ | exact below_oneH _ _)).out.mono ?_
        rintro e w2 ⟨rfl, hb2⟩
        have HB2 := Lib.hid (HB.out.trans (hb2.mono HB.out.size))
        clear hb2
        go_wp2_with fail
        go_ret
        exact HI.out _ _ (.inr ⟨j, hlt, rfl, HQ.out, by rw [HR.out]; exact hq⟩) HB2.out
      | false =>
        rw [hq] at HC
        have HQN := Lib.hid (HQ2.out hq)
        clear hq HQ2 HQ3
        obtain ⟨key, kind, sum, st, last, n', mn, mx, total, dropped⟩ := r
        unfold R.v at HC
        simp only at *
        go_wp2_with fail
        refine (HC _ (by first | exact Below.refl _ _ | exact below_oneH _ _)).out.mono ?_
        rintro e w2 ⟨rfl, hb2⟩
        have HB2 := Lib.hid (HB.out.trans (hb2.mono HB.out.size))
        clear hb2
        go_wp2_with fail
        go_roundw
        case rel => exact ⟨j + 1, by omega, by go_num, HQN.out, HB2.out⟩
        case measure => simp [intOf]; omega
    · have hjn : j = n := by omega
      subst hjn
      have HB := Lib.hid hbl
      clear hbl
      go_wp2_with fail
      go_ret
      exact HI.out _ _ (.inl ⟨rfl, HQ.out⟩) HB.out
set_option maxRecDepth 100000 in
set_option maxHeartbeats 8000000 in
theorem iDelK_any (w : World) (base g n cap : Nat) (rs : List R) (p : Nat) (s : ByteArray) (h : OwnR w base (.slice (some ⟨g, 0, none⟩) n cap) rs) (hn : rs.length = n) (hp : Blk w p 9 #[.string s]) (hpg : p ≠ g) :
    Calls Tryz.prog 74 #[.slice (some ⟨g, 0, none⟩) n cap, .func (.func 75) #[] #[.pointer (some ⟨p, 0, none⟩)]] w (InPlace w base g cap (noKey s rs)) := by
  have HX := Lib.hid (iIdxK_any w _ rs p s h.arg hp)
  obtain ⟨hc1, hc2⟩ := h.capLe hn
  have hg := h.inB.2
  have HO := Lib.hid h
  have HNL := Lib.hid hn
  have HP := Lib.hid hp
  unfold maxLen at hc2
  clear h hp hn
  go_enter Tryz.func74, Tryz.ntmps74
  go_wp2_with fail
  refine HX.out.mono ?_
  rintro e w2 ⟨hcase, hb2⟩
  have HO2 := Lib.hid (HO.out.below hb2)
  have HG2 := Lib.hid (grown_below (g := some g) hb2)
  rcases hcase with ⟨rfl, hq⟩ | ⟨k, hk, rfl, hq, hqk⟩
  · have HE := Lib.hid (filterK_none hq)
    clear hq HX hb2
    go_wp2_with fail
    go_ret
    exact ⟨n, by rw [HE.out, HNL.out], rfl, by rw [HE.out]; exact HO2.out, HG2.out⟩
  · rw [HNL.out] at hk
    have hne : ((k : Int) == -1) = false := by rw [beq_eq_false_iff_ne]; omega
    have hs := strikeV_start (kp := keepK s rs) (l := rs) (k := k) (by rw [HNL.out]; exact hk) (fun j hj => by unfold keepK; rw [hq j hj]; rfl) (by unfold keepK; rw [hqk]; rfl)
    have HS := Lib.hid hs
    clear hs hq hqk HX hb2
    go_wp2_with fail
    go_loopw [5, 6] (fun i j wr => ∃ m : Nat, m ≤ n ∧ j = .int .i64 m ∧ i = .int .i64 ((keptL (keepK s rs) rs m).length : Nat) ∧ (keptL (keepK s rs) rs m).length < m ∧ OwnR wr base (.slice (some ⟨g, 0, none⟩) n cap) (strikeV (keepK s rs) rs m) ∧ w.grownBy wr (some g)) (fun _ j _ => n - (intOf j).toNat)
    case atStart =>
      have e : (keptL (keepK s rs) rs (k + 1)).length = k := by rw [HS.out.1, List.length_take, HNL.out]; omega
      exact ⟨k + 1, by omega, by go_num, by rw [e], by omega, by rw [HS.out.2]; exact HO2.out, HG2.out⟩
    case round =>
      obtain ⟨m, hm, rfl, rfl, hkm, ho, hgr⟩ := hrel
      clear HO2 HG2 HS
      have hsl : (strikeV (keepK s rs) rs m).length = n := by rw [strikeV_length (by rw [HNL.out]; exact hm), HNL.out]
      have HO2 := Lib.hid ho
      have HG2 := Lib.hid hgr
      have HSL := Lib.hid hsl
      by_cases hlt : m < n
      · have hrow := ho.at hsl m hlt
        rw [strikeV_high m (by omega)] at hrow
        have HPR := Lib.hid (HP.out.grown hgr (fun e => hpg (Option.some.inj e).symm))
        have HC := fun W (hb : Below wr.heap.size wr W) => Lib.hid (iEqC_any W p s (rs.getD m zeroR) (HPR.out.below hb))
        have HK := Lib.hid (fun (q : keyB s (rs.getD m zeroR) = false) => strikeV_keep (kp := keepK s rs) (l := rs) (m := m) (by rw [HNL.out]; exact hlt) (by unfold keepK; rw [q]; rfl))
        have HKN := Lib.hid (fun (q : keyB s (rs.getD m zeroR) = true) => strikeV_skip (kp := keepK s rs) (l := rs) (m := m) (by unfold keepK; rw [q]; rfl))
        generalize hL : (keptL (keepK s rs) rs m).length = L at *
        generalize rs.getD m zeroR = r at *
        have HL := Lib.hid hL
        clear ho hgr hsl hL
        obtain ⟨x0, x1, x2, x3, x4, x5, x6, x7, x8, x9⟩ := hrow.get
        clear hrow
        have hLn : L < n := by omega
        have hltz : (m : Int) < (n : Int) := by omega
        have hLz : (L : Int) < (n : Int) := by omega
        cases hq : keyB s r with
        | true =>
          rw [hq] at HC
          have HK2 := Lib.hid (HKN.out hq)
          clear hq HK HKN
          obtain ⟨key, kind, sum, st, last, n', mn, mx, total, dropped⟩ := r
          unfold R.v at HC
          simp only at *
          go_wp2_with fail
          refine (HC _ (by first | exact Below.refl _ _ | exact below_oneH _ _)).out.mono ?_
          rintro e w3 ⟨rfl, hb3⟩
          have HO3 := Lib.hid ((HO2.out.alloc (.cells (rowCells ⟨key, kind, sum, st, last, n', mn, mx, total, dropped⟩) 42)).below hb3)
          have HG3 := Lib.hid (grownR_trans HG2.out (grown_below (g := some g) (((Below.refl _ _).alloc (Nat.le_refl _) (.cells (rowCells ⟨key, kind, sum, st, last, n', mn, mx, total, dropped⟩) 42)).trans (hb3.mono (by simp [go_sem])))))
          clear hb3
          go_wp2_with fail
          go_roundw
          case rel => exact ⟨m + 1, by omega, by go_num, by rw [HK2.out.1, HL.out], by rw [HK2.out.1, HL.out]; omega, by rw [HK2.out.2]; exact HO3.out, HG3.out⟩
          case measure => simp [intOf]; omega
        | false =>
          rw [hq] at HC
          have HK2 := Lib.hid (HK.out hq)
          clear hq HK HKN
          obtain ⟨key, kind, sum, st, last, n', mn, mx, total, dropped⟩ := r
          unfold R.v at HC
          simp only at *
          go_wp2_with fail
          refine (HC _ (by first | exact Below.refl _ _ | exact below_oneH _ _)).out.mono ?_
          rintro e w3 ⟨rfl, hb3⟩
          have hx3 := (rowAt_new wr _ ⟨key, kind, sum, st, last, n', mn, mx, total, dropped⟩ rfl).below hb3
          have HO3 := Lib.hid ((HO2.out.alloc (.cells (rowCells ⟨key, kind, sum, st, last, n', mn, mx, total, dropped⟩) 42)).below hb3)
          have HG3 := Lib.hid (grownR_trans HG2.out (grown_below (g := some g) (((Below.refl _ _).alloc (Nat.le_refl _) (.cells (rowCells ⟨key, kind, sum, st, last, n', mn, mx, total, dropped⟩) 42)).trans (hb3.mono (by simp [go_sem])))))
          obtain ⟨z0, z1, z2, z3, z4, z5, z6, z7, z8, z9⟩ := (HO3.out.at HSL.out L hLn).get
          have zf := HO3.out.frz HSL.out
          clear hb3 x0 x1 x2 x3 x4 x5 x6 x7 x8 x9
          obtain ⟨x0, x1, x2, x3, x4, x5, x6, x7, x8, x9, xf⟩ := hx3.get
          clear hx3
          go_wp2_with fail
          go_roundw
          case rel =>
            have hst := HO3.out.put HSL.out L hLn ⟨key, kind, sum, st, last, n', mn, mx, total, dropped⟩
            exact ⟨m + 1, by omega, by go_num, by rw [HK2.out.1]; go_num, by rw [HK2.out.1]; omega, by rw [HK2.out.2]; exact hst.1, grownR_trans HG3.out hst.2⟩
          case measure => simp [intOf]; omega
      · have hmn : m = n := by omega
        subst hmn
        have hE := strikeV_done (keepK s rs) rs m
        have hF : keptL (keepK s rs) rs m = noKey s rs := by rw [← keepK_all, HNL.out]
        rw [hF] at hE hkm
        rw [hF]
        have hcl := fun ty c => clear_rows ho hsl (noKey s rs).length hkm ty c
        have HCUT := Lib.hid (fun cs => ho.cut hsl (noKey s rs).length (Nat.le_of_lt hkm) cs)
        rw [hE] at HCUT
        clear ho hgr hsl hE hF HO2
        have HLL := Lib.hid (rfl : (noKey s rs).length = (noKey s rs).length)
        generalize hL : (noKey s rs).length = L at *
        have HL := Lib.hid hL
        clear hL HLL
        go_wp2_with fail
        go_ret
        exact ⟨L, HL.out.symm, rfl, (HCUT.out _).1, grownR_trans HG2.out (HCUT.out _).2⟩
set_option maxRecDepth 100000 in
set_option maxHeartbeats 4000000 in
theorem iDelK_nil (w : World) (p : Nat) (s : ByteArray) (hp : Blk w p 9 #[.string s]) : Calls Tryz.prog 74 #[.slice none 0 0, .func (.func 75) #[] #[.pointer (some ⟨p, 0, none⟩)]] w (Gives (.slice none 0 0) w) := by
  have HX := Lib.hid (iIdxK_any w (.slice none 0 0) [] p s ⟨none, 0, rfl, Nat.zero_le _, Nat.zero_le _, fun h => absurd h (by simp)⟩ hp)
  clear hp
  go_enter Tryz.func74, Tryz.ntmps74
  go_wp2_with fail
  refine HX.out.mono ?_
  rintro e w2 ⟨hcase, hb2⟩
  rcases hcase with ⟨rfl, hq⟩ | ⟨k, hk, _⟩
  · have HB := Lib.hid hb2
    clear hq HX hb2
    go_wp2_with fail
    go_ret
    exact ⟨rfl, HB.out⟩
  · exact absurd hk (Nat.not_lt_zero _)
end Go.Proofs.YtbhhhakfjmaglaaGreat
