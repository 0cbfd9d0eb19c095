/-
  Chapter 14, the program: where an event lies, when windows end, which of two operations was reported before the other was called.
-/
import Derived.Test.YtjiaogbkmpjciaaOrdS
import Derived.Test.YtjiaogbkmpjciaaMapK
import Derived.Test.YtjiaogbkmpjciaaZd
namespace Go.Proofs.Ytjiaogbkmpjciaa
open Go.RowKit Go.Maps M
set_option linter.unusedVariables false
set_option linter.unusedSimpArgs false
theorem zero_i (w : World) : (zeroValue 3).run Try.prog w = .ok (.int .i64 0) w := by kernel_rfl
def swN (l : List M.E) (win : Int) : Option Int := (l.find? (isSwap win)).map (·.at_)
def swF (l : List M.E) (win : Int) : Option Lit := (swN l win).map (Lit.int .i64)
theorem swapV_N (l : List M.E) (win : Int) : swapV l win = (swN l win).getD (-1) := by
  unfold swapV swN
  induction l with
  | nil => rfl
  | cons e l ih =>
    rw [swapD, List.find?_cons]
    by_cases h : isSwap win e = true
    · rw [if_pos h, h]; rfl
    · rw [if_neg h, ih]; simp only [Bool.not_eq_true] at h; rw [h]
theorem take_snocE (l : List M.E) (j : Nat) (hj : j < l.length) : l.take (j + 1) = l.take j ++ [l.getD j zeroE] := by
  rw [List.getD_eq_getElem?_getD, List.getElem?_eq_getElem hj, List.take_succ_eq_append_getElem hj]; rfl
theorem swN_snoc (l : List M.E) (j : Nat) (hj : j < l.length) (x : Int) : swN (l.take (j + 1)) x = (swN (l.take j) x).or (if isSwap x (l.getD j zeroE) = true then some (l.getD j zeroE).at_ else none) := by
  rw [take_snocE l j hj]
  unfold swN
  rw [List.find?_append]
  cases List.find? (isSwap x) (l.take j) with
  | some e => rfl
  | none =>
    by_cases h : isSwap x (l.getD j zeroE) = true
    · rw [if_pos h]; simp only [List.find?_cons, h]; rfl
    · rw [if_neg h]; simp only [Bool.not_eq_true] at h; simp only [List.find?_cons, h]; rfl
theorem swF_keep (l : List M.E) (j : Nat) (hj : j < l.length) (h : (∀ x, isSwap x (l.getD j zeroE) = false) ∨ (swN (l.take j) (l.getD j zeroE).win).isSome = true) (x : Int) : swF (l.take j) x = swF (l.take (j + 1)) x := by
  unfold swF
  rw [swN_snoc l j hj x]
  by_cases hx : isSwap x (l.getD j zeroE) = true
  · rcases h with h | h
    · rw [h x] at hx; cases hx
    · have e : x = (l.getD j zeroE).win := by unfold isSwap at hx; simp only [Bool.and_eq_true, decide_eq_true_eq] at hx; exact hx.2.2.symm
      subst e
      rw [Option.isSome_iff_exists] at h
      obtain ⟨v, hv⟩ := h
      rw [hv]; rfl
  · rw [if_neg hx, Option.or_none]
theorem swF_new (l : List M.E) (j : Nat) (hj : j < l.length) (h1 : (l.getD j zeroE).kind = 2) (h2 : (l.getD j zeroE).op.kind = 3) (h3 : swN (l.take j) (l.getD j zeroE).win = none) (x : Int) : (if x = (l.getD j zeroE).win then some (Lit.int .i64 (l.getD j zeroE).at_) else swF (l.take j) x) = swF (l.take (j + 1)) x := by
  have hs : isSwap x (l.getD j zeroE) = decide ((l.getD j zeroE).win = x) := by unfold isSwap; rw [decide_eq_true h1, decide_eq_true h2]; rfl
  unfold swF
  rw [swN_snoc l j hj x, hs]
  by_cases hx : x = (l.getD j zeroE).win
  · subst hx; rw [if_pos rfl, h3, decide_eq_true rfl]; rfl
  · rw [if_neg hx, decide_eq_false (fun e => hx e.symm)]; simp
/-- The times at which windows end, as a map of the call's own. -/
def MadeSw (w : World) (l : List M.E) (e : Ending) (w' : World) : Prop := ∃ b n D, e = .returned (.map (some b)) ∧ w.heap.size ≤ b ∧ w'.ownsMap Try.prog 3 (plainElem (H := Unit) Try.prog 3) b n D ∧ IsFn D (swF l) ∧ Below w.heap.size w w'
set_option maxRecDepth 100000 in
set_option maxHeartbeats 1600000 in
theorem iPl1_any (w : World) (p q : Nat) (kind serial : Int) (r : M.E) (vr : Value) (hp : Blk w p 3 #[.int .i64 kind]) (hq : Blk w q 3 #[.int .i64 serial]) : Calls Try.prog 34 #[.agg (evVals r vr), .pointer (some ⟨p, 0, none⟩), .pointer (some ⟨q, 0, none⟩)] w (Gives (.bool (evIs kind serial r)) w) := by
  have x0 := hp.get 0
  have x1 := hq.get 0
  simp at x0 x1
  have hlp := hp.lt
  have hlq := hq.lt
  have HB := Lib.hid (below_oneL w (.cells (evVals r vr) 47))
  clear hp hq
  have HV := Lib.hid (show evIs kind serial r = (decide (r.kind = kind) && decide (r.serial = serial)) from rfl)
  unfold evVals at HB ⊢
  generalize evIs kind serial r = res at *
  generalize r.kind = k at *
  generalize r.serial = s at *
  generalize hop : r.op = op at *
  obtain ⟨ok, okey, ow, ov⟩ := op
  clear hop
  by_cases k1 : k = kind
  · have d1 : (k == kind) = true := by rw [beq_iff_eq]; exact k1
    by_cases k2 : s = serial
    · have d2 : (s == serial) = true := by rw [beq_iff_eq]; exact k2
      have HN := Lib.hid (show res = true by rw [HV.out, decide_eq_true k1, decide_eq_true k2]; rfl)
      clear k1 k2 HV
      go_enter Try.func34, Try.ntmps34
      go_wp2_with fail
      go_ret
      exact ⟨retb HN.out.symm, HB.out⟩
    · have d2 : (s == serial) = false := by rw [beq_eq_false_iff_ne]; exact k2
      have HN := Lib.hid (show res = false by rw [HV.out, decide_eq_false k2, Bool.and_false])
      clear k1 k2 HV
      go_enter Try.func34, Try.ntmps34
      go_wp2_with fail
      go_ret
      exact ⟨retb HN.out.symm, HB.out⟩
  · have d1 : (k == kind) = false := by rw [beq_eq_false_iff_ne]; exact k1
    have HN := Lib.hid (show res = false by rw [HV.out, decide_eq_false k1, Bool.false_and])
    clear k1 HV
    go_enter Try.func34, Try.ntmps34
    go_wp2_with fail
    go_ret
    exact ⟨retb HN.out.symm, HB.out⟩
set_option maxRecDepth 100000 in
set_option maxHeartbeats 1600000 in
theorem iIdxEv_any (w : World) (v : Value) (l : List M.E) (p q : Nat) (kind serial : Int) (h : ArgT 13 evDat zeroE w v l) (hp : Blk w p 3 #[.int .i64 kind]) (hq : Blk w q 3 #[.int .i64 serial]) : Calls Try.prog 33 #[v, .func (.func 34) #[] #[.pointer (some ⟨p, 0, none⟩), .pointer (some ⟨q, 0, none⟩)]] w (Gives (.int .i64 (placeV l kind serial)) w) := by
  have HAT := Lib.hid (fun W (hb : Below w.heap.size w W) j (hj : j < l.length) => argEv_at (h.below hb) j hj)
  have HD := Lib.hid (fun j (hj : j < l.length) => place_drop kind serial l j hj)
  have HE := Lib.hid (place_end kind serial l)
  have HV := Lib.hid (place_start kind serial l)
  generalize placeV l kind serial = res at *
  have HC := fun W (hb : Below w.heap.size w W) r vr => Lib.hid (iPl1_any W p q kind serial r vr (hp.below hb) (hq.below hb))
  clear hp hq
  obtain ⟨A, cap, rfl, h1, h2, _⟩ := h
  unfold maxLen at h2
  generalize hn : l.length = n at *
  clear hn
  have hul := Try.underlying47
  go_enter Try.func33, Try.ntmps33
  go_wp2_with fail
  go_loopw [8] (fun i wr => ∃ j : Nat, j ≤ n ∧ i = .int .i64 j ∧ placeD kind serial (l.drop 0) 0 = placeD kind serial (l.drop j) j ∧ Below w.heap.size w wr) (fun i _ => n - (intOf i).toNat)
  case atStart => exact ⟨0, Nat.zero_le _, rfl, rfl, Below.refl _ _⟩
  case round =>
    obtain ⟨j, hj, rfl, he, hbl⟩ := hrel
    have HQ := Lib.hid he
    clear he
    by_cases hlt : j < n
    · obtain ⟨b, off, cp, vrows, hA, hc1, hc2, hb, hrng, _⟩ := HAT.out wr hbl j hlt
      injection hA with hA1 hA2 hA3
      subst hA1
      clear hA2 hA3 hc1 hc2
      have HDJ := HD.out j hlt
      have HB := Lib.hid hbl
      have HR := Lib.hid hrng
      have HC1 := fun W (hb : Below wr.heap.size wr W) => HC W (hbl.trans (hb.mono hbl.size)) (l.getD j zeroE) vrows
      clear hrng HAT HD hbl HC
      generalize l.getD j zeroE = r at *
      cases hq : evIs kind serial r with
      | true =>
        rw [hq] at HC1
        have HN := Lib.hid (HQ.out.trans (HDJ.trans (if_pos (by exact hq))))
        clear hq HDJ
        go_wp2_with ((with_reducible show wpList _ _ _ _ _ _); refine wpList_load_mid rfl 47 _ rfl b (off + j * 13) rfl (evVals r vrows).toList _ HR.out hul rfl (by kernel_rfl) ?_)
        refine (HC1 _ (by first | exact Below.refl _ _ | exact below_oneL _ _)).out.mono ?_
        rintro e w2 ⟨rfl, hb2⟩
        have HB2 := Lib.hid (HB.out.trans (hb2.mono HB.out.size))
        clear hb2
        go_wp2_with fail
        go_ret
        exact ⟨retn (HV.out.trans HN.out).symm, HB2.out⟩
      | false =>
        rw [hq] at HC1
        have HN := Lib.hid (HQ.out.trans (HDJ.trans (if_neg (by rw [hq]; exact Bool.false_ne_true))))
        clear hq HDJ
        go_wp2_with ((with_reducible show wpList _ _ _ _ _ _); refine wpList_load_mid rfl 47 _ rfl b (off + j * 13) rfl (evVals r vrows).toList _ HR.out hul rfl (by kernel_rfl) ?_)
        refine (HC1 _ (by first | exact Below.refl _ _ | exact below_oneL _ _)).out.mono ?_
        rintro e w2 ⟨rfl, hb2⟩
        have HB2 := Lib.hid (HB.out.trans (hb2.mono HB.out.size))
        clear hb2
        go_wp2_with fail
        go_roundw
        case rel => exact ⟨j + 1, by omega, by go_num, HN.out, HB2.out⟩
        case measure => simp [intOf]; omega
    · have hjn : j = n := by omega
      subst hjn
      have HB := Lib.hid hbl
      have HN := Lib.hid (HV.out.trans (HQ.out.trans HE.out))
      clear hbl
      go_wp2_with fail
      go_ret
      exact ⟨retn HN.out.symm, HB.out⟩
set_option maxRecDepth 100000 in
set_option maxHeartbeats 1600000 in
theorem iPlaceOf_any (w : World) (v : Value) (l : List M.E) (kind serial : Int) (h : ArgT 13 evDat zeroE w v l) : Calls Try.prog 13 #[v, .int .i64 kind, .int .i64 serial] w (Gives (.int .i64 (placeV l kind serial)) w) := by
  have HC := fun W (hb : Below w.heap.size w W) p q hp hq => Lib.hid (iIdxEv_any W v l p q kind serial (h.below hb) hp hq)
  generalize placeV l kind serial = res at *
  have HP := Lib.hid ((Blk.new w w.heap.size 3 #[.int .i64 kind] rfl).alloc (.cells #[.int .i64 serial] 3))
  have HQ := Lib.hid (Blk.new (w.alloc (.cells #[.int .i64 kind] 3)) (w.heap.size + 1) 3 #[.int .i64 serial] (by simp))
  have HB := Lib.hid ((below_oneL w (.cells #[.int .i64 kind] 3)).trans ((below_oneL _ (.cells #[.int .i64 serial] 3)).mono (by simp)))
  have HC1 := HC _ HB.out _ _ HP.out HQ.out
  clear HC HP HQ h
  go_enter Try.func13, Try.ntmps13
  go_wp2_with fail
  refine HC1.out.mono ?_
  rintro e w2 ⟨rfl, hb2⟩
  have HB2 := Lib.hid (HB.out.trans (hb2.mono HB.out.size))
  clear hb2
  go_wp2_with fail
  go_ret
  exact ⟨rfl, HB2.out⟩
set_option maxRecDepth 100000 in
set_option maxHeartbeats 1600000 in
theorem iInTime_any (w : World) (v : Value) (l : List M.E) (a c : Int) (h : ArgT 13 evDat zeroE w v l) : Calls Try.prog 28 #[v, .int .i64 a, .int .i64 c] w (Gives (.bool (inTimeV l a c)) w) := by
  have CP := fun W (hb : Below w.heap.size w W) k s => Lib.hid (iPlaceOf_any W v l k s (h.below hb))
  have HV := Lib.hid (show inTimeV l a c = (decide (0 ≤ placeV l 3 a) && (decide (0 ≤ placeV l 1 c) && decide (placeV l 3 a < placeV l 1 c))) from rfl)
  obtain ⟨A, cap, rfl, _⟩ := h
  go_enter Try.func28, Try.ntmps28
  go_wp2_with fail
  refine (CP _ (Below.refl _ _) 3 a).out.mono ?_
  rintro e w1 ⟨rfl, hb1⟩
  go_wp2_with fail
  refine (CP _ hb1 1 c).out.mono ?_
  rintro e w2 ⟨rfl, hb2⟩
  have HB := Lib.hid (hb1.trans (hb2.mono hb1.size))
  clear hb1 hb2 CP
  generalize inTimeV l a c = res at *
  generalize placeV l 3 a = x at *
  generalize placeV l 1 c = y at *
  by_cases k1 : 0 ≤ x
  · have d1 : decide (x ≥ 0) = true := decide_eq_true k1
    by_cases k2 : x < y
    · have d2 : decide (x < y) = true := decide_eq_true k2
      have HN := Lib.hid (show res = true from HV.out.trans (by rw [decide_eq_true k1, decide_eq_true k2, decide_eq_true (show 0 ≤ y by omega)]; rfl))
      clear k1 k2
      go_wp2_with fail
      go_ret
      exact ⟨retb HN.out.symm, HB.out⟩
    · have d2 : decide (x < y) = false := decide_eq_false k2
      have HN := Lib.hid (show res = false from HV.out.trans (by rw [decide_eq_false k2]; simp))
      clear k1 k2
      go_wp2_with fail
      go_ret
      exact ⟨retb HN.out.symm, HB.out⟩
  · have d1 : decide (x ≥ 0) = false := decide_eq_false k1
    have HN := Lib.hid (show res = false from HV.out.trans (by rw [decide_eq_false k1]; simp))
    clear k1
    go_wp2_with fail
    go_ret
    exact ⟨retb HN.out.symm, HB.out⟩
set_option maxRecDepth 100000 in
set_option maxHeartbeats 4000000 in
theorem iSwaps_any (w : World) (v : Value) (l : List M.E) (h : ArgT 13 evDat zeroE w v l) (hf : ∀ j, j < l.length → (l.getD j zeroE).Fit) : Calls Try.prog 36 #[v] w (MadeSw w l) := by
  have HAT := Lib.hid (fun W (hb : Below w.heap.size w W) j (hj : j < l.length) => argEv_at (h.below hb) j hj)
  have HKP := Lib.hid (swF_keep l)
  have HNW := Lib.hid (swF_new l)
  have HTK := Lib.hid (List.take_length (l := l))
  have HF := Lib.hid hf
  clear hf
  have HI := Lib.hid (fun (e : Ending) (w' : World) (h : ∃ b n D, e = .returned (.map (some b)) ∧ w.heap.size ≤ b ∧ w'.ownsMap Try.prog 3 (plainElem (H := Unit) Try.prog 3) b n D ∧ IsFn D (swF l) ∧ Below w.heap.size w w') => show MadeSw w l e w' from h)
  obtain ⟨A, cap, rfl, h1, h2, _⟩ := h
  unfold maxLen at h2
  generalize hn : l.length = n at *
  have hul := Try.underlying47
  have hmm := @run_makeMap Try.prog
  have HM0 := Lib.hid (World.ownsMap_made w Try.prog 3 (plainElem (H := Unit) Try.prog 3))
  have HB0 := Lib.hid (below_oneL w (.map #[] 0))
  go_enter Try.func36, Try.ntmps36
  go_wp2_with fail
  go_loopw [11] (fun i wr => ∃ (j : Nat) (D : DataW Unit), j ≤ n ∧ i = .int .i64 j ∧ wr.ownsMap Try.prog 3 (plainElem (H := Unit) Try.prog 3) w.heap.size j D ∧ IsFn D (swF (l.take j)) ∧ Below w.heap.size w wr) (fun i _ => n - (intOf i).toNat)
  case atStart => exact ⟨0, _, Nat.zero_le _, rfl, HM0.out, IsFn.nil.congr (fun _ => rfl), HB0.out⟩
  case round =>
    obtain ⟨j, D, hj, rfl, hown, hfn, hbl⟩ := hrel
    clear HM0 HB0
    by_cases hlt : j < n
    · obtain ⟨b, off, cp, vrows, hA, hc1, hc2, hb, hrng, hev⟩ := HAT.out wr hbl j hlt
      injection hA with hA1 hA2 hA3
      subst hA1
      clear hA2 hA3 hc1 hc2
      obtain ⟨A1, c1, rfl, _⟩ := (show RowsArg _ _ _ from hev)
      have HKJ := Lib.hid (HKP.out j (by omega))
      have HNJ := Lib.hid (HNW.out j (by omega))
      have HFJ := Lib.hid (HF.out j hlt)
      have HO := Lib.hid hown
      have HFN := Lib.hid hfn
      have HB := Lib.hid hbl
      have HR := Lib.hid hrng
      clear hown hfn hbl hrng hev HAT HKP HNW HF HTK HI
      have hjn2 : (j : Int) < (n : Int) := by omega
      generalize hl1 : swF (l.take (j + 1)) = f1 at HKJ HNJ
      generalize hl0 : l.take j = l0 at *
      have HF1 := Lib.hid hl1
      clear hl1
      generalize l.getD j zeroE = r at *
      clear hl0
      have hww := wf_inW HFJ.out.nums.2.2.2.2.2.1
      have hwa := wf_inW HFJ.out.nums.2.2.2.1
      have hoc := ev_one r A1 r.rows.length c1
      go_upto_region 5 with ((with_reducible show wpList _ _ _ _ _ _); first | refine wpList_load_mid rfl 47 _ rfl b (off + j * 13) rfl (evVals r (.slice A1 r.rows.length c1)).toList _ HR.out hul rfl (by kernel_rfl) ?_ | refine wpList_store_row rfl 47 _ _ rfl wr.heap.size (evVals r (.slice A1 r.rows.length c1)) rfl rfl 47 _ (Blk.new wr wr.heap.size 47 #[.int .i64 0, .int .i64 0, .int .i64 0, .int .i64 0, .int .i64 0, .string ⟨#[]⟩, .int .i64 0, .int .i64 0, .int .i64 0, .int .i64 0, .int .i64 0, .int .i64 0, .slice none 0 0] rfl) (by kernel_rfl) rfl hoc ?_)
      refine wp_gen (fun W => Blk W wr.heap.size 47 (evVals r (.slice A1 r.rows.length c1)) ∧ Below wr.heap.size wr W) ⟨setRow_heap _ _ _ _ _ _ (Blk.new wr wr.heap.size 47 #[.int .i64 0, .int .i64 0, .int .i64 0, .int .i64 0, .int .i64 0, .string ⟨#[]⟩, .int .i64 0, .int .i64 0, .int .i64 0, .int .i64 0, .int .i64 0, .int .i64 0, .slice none 0 0] rfl), below_setRow' (below_oneL wr _) (Nat.le_refl _) _⟩ ?_
      rintro W2 ⟨hx, hbx⟩
      have c0 : W2.cell? ⟨wr.heap.size, 0, none⟩ = some (.int .i64 r.kind) := hx.get 0
      have c3 : W2.cell? ⟨wr.heap.size, 3, none⟩ = some (.int .i64 r.at_) := hx.get 3
      have c4 : W2.cell? ⟨wr.heap.size, 4, none⟩ = some (.int .i64 r.op.kind) := hx.get 4
      have c9 : W2.cell? ⟨wr.heap.size, 9, none⟩ = some (.int .i64 r.win) := hx.get 9
      have hwl := hx.lt
      have HO2 := Lib.hid (ownsMap_below HO.out hbx)
      have HB2 := Lib.hid (HB.out.trans (hbx.mono HB.out.size))
      clear hx hbx HR hoc HO HB
      have HSW := Lib.hid (show ∀ x, isSwap x r = (decide (r.kind = 2) && (decide (r.op.kind = 3) && decide (r.win = x))) from fun _ => rfl)
      generalize r.kind = q0 at *
      generalize r.at_ = q3 at *
      generalize r.op.kind = q4 at *
      generalize r.win = q9 at *
      cases hk : swN l0 q9 with
      | some r0 =>
        have HFN2 := Lib.hid (HFN.out.congr (HKJ.out (.inr (by rw [hk]; rfl))))
        by_cases k0 : q0 = 2
        · have d0 : (q0 == 2) = true := by rw [beq_iff_eq]; exact k0
          by_cases k4 : q4 = 3
          · have d4 : (q4 == 3) = true := by rw [beq_iff_eq]; exact k4
            clear k0 k4 HSW HKJ HNJ
            go_wp2_with (first | (at_lookup; refine lookup_fn _ rfl _ _ 53 rfl 3 Try.underlying3 Try.underlying53 (zero_i _) w.heap.size j D _ rfl HO2.out HFN.out q9 rfl hww true (by unfold swF; rw [hk]; rfl) r0 (.inl (by unfold swF; rw [hk]; rfl)) ?_))
            go_roundw
            case rel => exact ⟨j + 1, _, by omega, by go_num, HO2.out.mono (Nat.le_succ _), HF1.out ▸ HFN2.out, HB2.out⟩
            case measure => simp [intOf]; omega
          · have d4 : (q4 == 3) = false := by rw [beq_eq_false_iff_ne]; exact k4
            clear k0 k4 HSW HKJ HNJ
            go_wp2_with (first | (at_lookup; refine lookup_fn _ rfl _ _ 53 rfl 3 Try.underlying3 Try.underlying53 (zero_i _) w.heap.size j D _ rfl HO2.out HFN.out q9 rfl hww true (by unfold swF; rw [hk]; rfl) r0 (.inl (by unfold swF; rw [hk]; rfl)) ?_))
            go_roundw
            case rel => exact ⟨j + 1, _, by omega, by go_num, HO2.out.mono (Nat.le_succ _), HF1.out ▸ HFN2.out, HB2.out⟩
            case measure => simp [intOf]; omega
        · have d0 : (q0 == 2) = false := by rw [beq_eq_false_iff_ne]; exact k0
          clear k0 HSW HKJ HNJ
          go_wp2_with (first | (at_lookup; refine lookup_fn _ rfl _ _ 53 rfl 3 Try.underlying3 Try.underlying53 (zero_i _) w.heap.size j D _ rfl HO2.out HFN.out q9 rfl hww true (by unfold swF; rw [hk]; rfl) r0 (.inl (by unfold swF; rw [hk]; rfl)) ?_))
          go_roundw
          case rel => exact ⟨j + 1, _, by omega, by go_num, HO2.out.mono (Nat.le_succ _), HF1.out ▸ HFN2.out, HB2.out⟩
          case measure => simp [intOf]; omega
      | none =>
        by_cases k0 : q0 = 2
        · have d0 : (q0 == 2) = true := by rw [beq_iff_eq]; exact k0
          by_cases k4 : q4 = 3
          · have d4 : (q4 == 3) = true := by rw [beq_iff_eq]; exact k4
            have HFN2 := Lib.hid (fun (D' : DataW Unit) (h : IsFn D' (fun x => if x = q9 then some (Lit.int .i64 q3) else swF l0 x)) => h.congr (HNJ.out k0 k4 hk))
            clear k0 k4 HSW HKJ HNJ
            go_wp2_with (first | (at_lookup; refine lookup_fn _ rfl _ _ 53 rfl 3 Try.underlying3 Try.underlying53 (zero_i _) w.heap.size j D _ rfl HO2.out HFN.out q9 rfl hww false (by unfold swF; rw [hk]; rfl) 0 (.inr ⟨by unfold swF; rw [hk]; rfl, rfl⟩) ?_) | (at_mapUpdate; refine store_fn _ rfl _ _ _ 53 rfl 3 3 Try.underlying3 Try.underlying53 w.heap.size j D _ rfl HO2.out (by unfold maxLen; omega) HFN.out q9 rfl hww _ (.int .i64 q3) rfl (plainElem_int Try.underlying3 hwa) ?_; rintro W3 ⟨D', hown3, hfn3⟩ hgr; have HFN3 := Lib.hid (HFN2.out _ hfn3); have HO3 := Lib.hid hown3; have HB3 := Lib.hid (HB2.out.grown hgr HB2.out.size (fun k hk => by cases hk; exact Nat.le_refl _)); clear hown3 hfn3 hgr HFN2))
            go_roundw
            case rel => exact ⟨j + 1, _, by omega, by go_num, HO3.out, HF1.out ▸ HFN3.out, HB3.out⟩
            case measure => simp [intOf]; omega
          · have d4 : (q4 == 3) = false := by rw [beq_eq_false_iff_ne]; exact k4
            have HFN2 := Lib.hid (HFN.out.congr (HKJ.out (.inl (fun x => by rw [HSW.out x, decide_eq_false k4, Bool.false_and, Bool.and_false]))))
            clear k0 k4 HSW HKJ HNJ
            go_wp2_with (first | (at_lookup; refine lookup_fn _ rfl _ _ 53 rfl 3 Try.underlying3 Try.underlying53 (zero_i _) w.heap.size j D _ rfl HO2.out HFN.out q9 rfl hww false (by unfold swF; rw [hk]; rfl) 0 (.inr ⟨by unfold swF; rw [hk]; rfl, rfl⟩) ?_))
            go_roundw
            case rel => exact ⟨j + 1, _, by omega, by go_num, HO2.out.mono (Nat.le_succ _), HF1.out ▸ HFN2.out, HB2.out⟩
            case measure => simp [intOf]; omega
        · have d0 : (q0 == 2) = false := by rw [beq_eq_false_iff_ne]; exact k0
          have HFN2 := Lib.hid (HFN.out.congr (HKJ.out (.inl (fun x => by rw [HSW.out x, decide_eq_false k0, Bool.false_and]))))
          clear k0 HSW HKJ HNJ
          go_wp2_with (first | (at_lookup; refine lookup_fn _ rfl _ _ 53 rfl 3 Try.underlying3 Try.underlying53 (zero_i _) w.heap.size j D _ rfl HO2.out HFN.out q9 rfl hww false (by unfold swF; rw [hk]; rfl) 0 (.inr ⟨by unfold swF; rw [hk]; rfl, rfl⟩) ?_))
          go_roundw
          case rel => exact ⟨j + 1, _, by omega, by go_num, HO2.out.mono (Nat.le_succ _), HF1.out ▸ HFN2.out, HB2.out⟩
          case measure => simp [intOf]; omega
    · have hjn : j = n := by omega
      have HO := Lib.hid hown
      have HB := Lib.hid hbl
      have HFN := Lib.hid (show IsFn D (swF l) by have h := hfn; rw [hjn, HTK.out] at h; exact h)
      have hltz : ¬ (j : Int) < (n : Int) := by omega
      clear hown hbl hfn HAT HKP HNW HF hjn hn HTK
      go_wp2_with fail
      go_ret
      exact HI.out _ _ ⟨_, _, _, rfl, Nat.le_refl _, HO.out, HFN.out, HB.out⟩
set_option maxRecDepth 100000 in
set_option maxHeartbeats 1600000 in
theorem iSwapAt_any (w : World) (v : Value) (l : List M.E) (win : Int) (h : ArgT 13 evDat zeroE w v l) (hf : ∀ j, j < l.length → (l.getD j zeroE).Fit) (hww : (Lit.int .i64 win).wf = true) : Calls Try.prog 16 #[v, .int .i64 win] w (Gives (.int .i64 (swapV l win)) w) := by
  have HC := Lib.hid (iSwaps_any w v l h hf)
  have HV := Lib.hid (swapV_N l win)
  generalize swapV l win = res at *
  clear hf
  obtain ⟨A, cap, rfl, _⟩ := h
  go_enter Try.func16, Try.ntmps16
  go_wp2_with fail
  refine HC.out.mono ?_
  rintro e w1 ⟨b, n, D, rfl, hbb, hown, hfn, hb1⟩
  have HO := Lib.hid hown
  have HFN := Lib.hid hfn
  have HB := Lib.hid hb1
  clear hown hfn hb1 HC
  cases hk : swN l win with
  | some r0 =>
    have HN := Lib.hid (show res = r0 by rw [HV.out, hk]; rfl)
    go_wp2_with (first | (at_lookup; refine lookup_fn _ rfl _ _ 53 rfl 3 Try.underlying3 Try.underlying53 (zero_i _) b n D _ rfl HO.out HFN.out win rfl hww true (by unfold swF; rw [hk]; rfl) r0 (.inl (by unfold swF; rw [hk]; rfl)) ?_))
    go_ret
    exact ⟨retn HN.out.symm, HB.out⟩
  | none =>
    have HN := Lib.hid (show res = -1 by rw [HV.out, hk]; rfl)
    go_wp2_with (first | (at_lookup; refine lookup_fn _ rfl _ _ 53 rfl 3 Try.underlying3 Try.underlying53 (zero_i _) b n D _ rfl HO.out HFN.out win rfl hww false (by unfold swF; rw [hk]; rfl) 0 (.inr ⟨by unfold swF; rw [hk]; rfl, rfl⟩) ?_))
    go_ret
    exact ⟨retn HN.out.symm, HB.out⟩
end Go.Proofs.Ytjiaogbkmpjciaa
