/-
  Texts of this seat, laid together.
-/
import Derived.Test.YtnlepnfdgdbkoaaGreatDoorYStepO
import Derived.Test.YtnlepnfdgdbkoaaGreatDoorYZg
namespace Go.Proofs.YtnlepnfdgdbkoaaGreatDoor
open Go.RowKit M
set_option linter.unusedVariables false
set_option linter.unusedSimpArgs false
def actA : Array Value := #[.func (.func 76) #[] #[], .func (.func 77) #[] #[], .func (.func 78) #[] #[], .func (.func 79) #[] #[], .func (.func 80) #[] #[], .func (.func 81) #[] #[], .func (.func 82) #[] #[], .func (.func 83) #[] #[], .func (.func 84) #[] #[], .func (.func 85) #[] #[], .func (.func 86) #[] #[], .func (.func 87) #[] #[], .func (.func 88) #[] #[], .func (.func 89) #[] #[], .func (.func 90) #[] #[], .func (.func 91) #[] #[]]
set_option maxRecDepth 100000 in
set_option maxHeartbeats 4000000 in
theorem iActionAt_any (w : World) (n : Nat) (hn : n < 16) : Calls Tryz.prog 62 #[.int .i64 (n : Int)] w (Gives (actA.getD n undef) w) := by
  have hn2 : (n : Int) < 16 := by omega
  obtain ⟨v, hv⟩ : ∃ v, actA[n]? = some v := ⟨actA[n]'hn, Array.getElem?_eq_getElem hn⟩
  have hv2 : actA.getD n undef = v := by rw [Array.getD_eq_getD_getElem?, hv]; rfl
  rw [hv2]
  go_enter Tryz.func62, Tryz.ntmps62
  go_upto_region 2 with ((with_reducible show wpList _ _ _ _ _ _); refine wpList_store_row rfl 108 _ _ rfl w.heap.size actA rfl rfl 108 _ (Blk.new w _ _ _ rfl) (by kernel_rfl) rfl (by kernel_rfl) ?_)
  refine wp_gen (fun W => Blk W w.heap.size 108 actA ∧ Below w.heap.size w W) ⟨setRow_heap _ _ _ _ _ _ (Blk.new w _ _ _ rfl), below_setRow' (below_oneL w _) (Nat.le_refl _) _⟩ ?_
  rintro W ⟨h0, hb⟩
  have c0 : W.cell? ⟨w.heap.size, n, none⟩ = some v := (h0.get n).trans hv
  have HB := Lib.hid hb
  have hfn : ∃ m, v = .func (.func m) #[] #[] := by
    have hm := Array.mem_of_getElem? hv
    simp only [actA, List.mem_toArray, List.mem_cons, List.not_mem_nil, or_false] at hm
    rcases hm with h | h | h | h | h | h | h | h | h | h | h | h | h | h | h | h <;> exact ⟨_, h⟩
  obtain ⟨m, rfl⟩ := hfn
  clear h0 hb hv hv2
  go_wp2_with fail
  go_ret
  exact ⟨rfl, HB.out⟩
theorem JG.pc16 {t : Nat} {j : J} (h : JG t j) : 0 ≤ j.pc ∧ j.pc < 16 := by
  have hp := h.place
  unfold placeOkV at hp
  split at hp
  · omega
  · split at hp
    · rw [decide_eq_true_eq] at hp; omega
    · split at hp
      · rw [decide_eq_true_eq] at hp; omega
      · rw [decide_eq_true_eq] at hp; omega
theorem JG.kinds {t : Nat} {j : J} (h : JG t j) : (j.pc = 11 ∨ (j.op.kind = 3 ∧ 12 ≤ j.pc ∧ j.pc ≤ 15) ∨ (j.op.kind = 1 ∧ (j.pc = 0 ∨ j.pc = 1)) ∨ (j.op.kind = 2 ∧ (j.pc = 0 ∨ (2 ≤ j.pc ∧ j.pc ≤ 10)))) := by
  have hp := h.place
  have hk := (op_kinds h.op).1
  unfold placeOkV at hp
  split at hp
  · exact .inl (by assumption)
  · split at hp
    · rw [decide_eq_true_eq] at hp; omega
    · split at hp
      · rw [decide_eq_true_eq] at hp; omega
      · rw [decide_eq_true_eq] at hp; omega
theorem JG.cnt {t : Nat} {j : J} (h : JG t j) : ((j.pc = 0 ∨ j.pc = 1) → 0 ≤ j.k ∧ j.k ≤ 3) ∧ (j.pc = 8 → 0 ≤ j.k ∧ j.k ≤ 2) ∧ (j.pc = 14 → 0 ≤ j.k ∧ j.k ≤ 3) ∧ (j.pc = 15 → 0 ≤ j.k ∧ j.k ≤ 31) := by
  have hc := h.count
  unfold countOkV at hc
  refine ⟨fun e => ?_, fun e => ?_, fun e => ?_, fun e => ?_⟩
  · rw [if_pos e, decide_eq_true_eq] at hc; exact hc
  · rw [if_neg (by omega), if_pos e, decide_eq_true_eq] at hc; exact hc
  · rw [if_neg (by omega), if_neg (by omega), if_pos e] at hc
    simp only [Bool.and_eq_true, decide_eq_true_eq] at hc; exact hc.1
  · rw [if_neg (by omega), if_neg (by omega), if_neg (by omega), if_pos e] at hc
    simp only [Bool.and_eq_true, decide_eq_true_eq] at hc; exact hc.1
theorem work_act (w : World) (κ : Nat → Nat) (g b cap : Nat) (vt : Value) (t : Nat) (s : S) (r : J) (vc vl : Value) (h : PJ w κ g b cap vt t s r vc vl) (hok : okC s.cells = true) (hlen : s.log.length ≤ 1048576) (hj : JG t r) (hks : r.op.key.size ≤ maxLen) (hfk : Fit r.keys) (hfr : Fit r.raw)
    (n : Nat) (hpc : r.pc = (n : Int)) (hn : n < 16) : ∃ m, actA.getD n undef = .func (.func m) #[] #[] ∧ Calls Tryz.prog m #[.pointer (some ⟨g, 0, none⟩), .int .i64 (t : Int), .pointer (some ⟨b, t * 18, none⟩)] w (PX w κ g b cap vt t (workS s t r)) := by
  have hkd := hj.kinds
  have hct := hj.cnt
  have hkey : r.pc = 0 ∨ r.pc = 1 → keyOkV r.op.key = true := fun e => by
    rcases (op_kinds hj.op).2 with h3 | h3
    · omega
    · exact h3
  have hval : 2 ≤ r.pc ∧ r.pc ≤ 10 → 0 ≤ r.op.val ∧ r.op.val ≤ 65535 := fun e => op_val hj.op (by omega)
  have hk32 := hj.raw
  have hk4 := hj.keys
  rcases (show n = 0 ∨ n = 1 ∨ n = 2 ∨ n = 3 ∨ n = 4 ∨ n = 5 ∨ n = 6 ∨ n = 7 ∨ n = 8 ∨ n = 9 ∨ n = 10 ∨ n = 11 ∨ n = 12 ∨ n = 13 ∨ n = 14 ∨ n = 15 by omega) with rfl | rfl | rfl | rfl | rfl | rfl | rfl | rfl | rfl | rfl | rfl | rfl | rfl | rfl | rfl | rfl
  · refine ⟨_, rfl, ?_⟩
    unfold workS
    rw [if_neg (by omega), if_pos (show r.pc = 0 by omega)]
    exact iProbeKey_any w κ g b cap vt t s r vc vl h hok hlen (hct.1 (by omega)) (hkey (by omega)) hks
  · refine ⟨_, rfl, ?_⟩
    unfold workS
    rw [if_neg (by omega), if_neg (by omega), if_pos (show r.pc = 1 by omega)]
    exact iClaimSlot_any w κ g b cap vt t s r vc vl h hok hlen (hct.1 (by omega)) (hkey (by omega)) hks
  · refine ⟨_, rfl, ?_⟩
    unfold workS
    rw [if_neg (by omega), if_neg (by omega), if_neg (by omega), if_pos (show r.pc < 12 by omega)]; unfold writeS; rw [if_pos (show r.pc = 2 by omega)]
    exact iReadEpoch_any w κ g b cap vt t s r vc vl h hok
  · refine ⟨_, rfl, ?_⟩
    unfold workS
    rw [if_neg (by omega), if_neg (by omega), if_neg (by omega), if_pos (show r.pc < 12 by omega)]; unfold writeS; rw [if_neg (by omega), if_pos (show r.pc = 3 by omega)]
    exact iEnterBuf_any w κ g b cap vt t s r vc vl h hok hj.e
  · refine ⟨_, rfl, ?_⟩
    unfold workS
    rw [if_neg (by omega), if_neg (by omega), if_neg (by omega), if_pos (show r.pc < 12 by omega)]; unfold writeS; rw [if_neg (by omega), if_neg (by omega), if_pos (show r.pc = 4 by omega)]
    exact iRecheck_any w κ g b cap vt t s r vc vl h hok
  · refine ⟨_, rfl, ?_⟩
    unfold workS
    rw [if_neg (by omega), if_neg (by omega), if_neg (by omega), if_pos (show r.pc < 12 by omega)]; unfold writeS; rw [if_neg (by omega), if_neg (by omega), if_neg (by omega), if_pos (show r.pc = 5 by omega)]
    exact iRecordData_any w κ g b cap vt t s r vc vl h hok hlen hj.e hj.slot (hval (by omega))
  · refine ⟨_, rfl, ?_⟩
    unfold workS
    rw [if_neg (by omega), if_neg (by omega), if_neg (by omega), if_pos (show r.pc < 12 by omega)]; unfold writeS; rw [if_neg (by omega), if_neg (by omega), if_neg (by omega), if_neg (by omega), if_pos (show r.pc = 6 by omega)]
    exact iLookAt_any w κ g b cap vt t s r vc vl h hok hj.e hj.slot
  · refine ⟨_, rfl, ?_⟩
    unfold workS
    rw [if_neg (by omega), if_neg (by omega), if_neg (by omega), if_pos (show r.pc < 12 by omega)]; unfold writeS; rw [if_neg (by omega), if_neg (by omega), if_neg (by omega), if_neg (by omega), if_neg (by omega), if_pos (show r.pc = 7 by omega)]
    exact iCasGauge_any w κ g b cap vt t s r vc vl h hok hj.e hj.slot
  · refine ⟨_, rfl, ?_⟩
    unfold workS
    rw [if_neg (by omega), if_neg (by omega), if_neg (by omega), if_pos (show r.pc < 12 by omega)]; unfold writeS; rw [if_neg (by omega), if_neg (by omega), if_neg (by omega), if_neg (by omega), if_neg (by omega), if_neg (by omega), if_pos (show r.pc = 8 by omega)]
    exact iStoreSample_any w κ g b cap vt t s r vc vl h hok hj.e hj.slot (hct.2.1 (by omega)) (hval (by omega))
  · refine ⟨_, rfl, ?_⟩
    unfold workS
    rw [if_neg (by omega), if_neg (by omega), if_neg (by omega), if_pos (show r.pc < 12 by omega)]; unfold writeS; rw [if_neg (by omega), if_neg (by omega), if_neg (by omega), if_neg (by omega), if_neg (by omega), if_neg (by omega), if_neg (by omega), if_pos (show r.pc = 9 by omega)]
    exact iExitBuf_any w κ g b cap vt t s r vc vl h hok hj.e
  · refine ⟨_, rfl, ?_⟩
    unfold workS
    rw [if_neg (by omega), if_neg (by omega), if_neg (by omega), if_pos (show r.pc < 12 by omega)]; unfold writeS; rw [if_neg (by omega), if_neg (by omega), if_neg (by omega), if_neg (by omega), if_neg (by omega), if_neg (by omega), if_neg (by omega), if_neg (by omega)]
    exact iLeaveBuf_any w κ g b cap vt t s r vc vl h hok hj.e
  · refine ⟨_, rfl, ?_⟩
    unfold workS
    rw [if_pos (show r.pc = 11 by omega)]
    exact iTell_any w κ g b cap vt t s r vc vl h hlen hfk hfr hk4 (by omega)
  · refine ⟨_, rfl, ?_⟩
    unfold workS
    rw [if_neg (by omega), if_neg (by omega), if_neg (by omega), if_neg (by omega)]; unfold flushS; rw [if_pos (show r.pc = 12 by omega)]
    exact iSwapBufs_any w κ g b cap vt t s r vc vl h hok hlen
  · refine ⟨_, rfl, ?_⟩
    unfold workS
    rw [if_neg (by omega), if_neg (by omega), if_neg (by omega), if_neg (by omega)]; unfold flushS; rw [if_neg (by omega), if_pos (show r.pc = 13 by omega)]
    exact iWaitForBuf_any w κ g b cap vt t s r vc vl h hok hj.e
  · refine ⟨_, rfl, ?_⟩
    unfold workS
    rw [if_neg (by omega), if_neg (by omega), if_neg (by omega), if_neg (by omega)]; unfold flushS; rw [if_neg (by omega), if_neg (by omega), if_pos (show r.pc = 14 by omega)]
    exact iCollectKey_any w κ g b cap vt t s r vc vl h hok (hct.2.2.1 (by omega)) (by omega)
  · refine ⟨_, rfl, ?_⟩
    unfold workS
    rw [if_neg (by omega), if_neg (by omega), if_neg (by omega), if_neg (by omega)]; unfold flushS; rw [if_neg (by omega), if_neg (by omega), if_neg (by omega)]
    exact iDrainCell_any w κ g b cap vt t s r vc vl h hok hj.e (hct.2.2.2 (by omega)) (by omega)
def advS (s : S) (t : Nat) (r : J) : S × J :=
  if r.busy = false then startP { s with now := s.now + 1 } t ((s.todo.getD t []).headD zeroO) (s.todo.getD t []).tail else workS { s with now := s.now + 1 } t { r with steps := bump r.steps }
set_option maxRecDepth 100000 in
set_option maxHeartbeats 8000000 in
theorem iAdvance_any (w : World) (κ : Nat → Nat) (g b cap : Nat) (vt : Value) (t : Nat) (s : S) (r : J) (vc vl : Value) (h : PJ w κ g b cap vt t s r vc vl) (hok : okC s.cells = true) (hlen : s.log.length ≤ 1048576) (hn : s.todo.length = 4) (hnow : 0 ≤ s.now ∧ s.now < 1000000000) (hbusy : r.busy = true → JG t r ∧ r.op.key.size ≤ maxLen ∧ Fit r.keys ∧ Fit r.raw) (hfree : r.busy = false → 0 < (s.todo.getD t []).length ∧ 0 ≤ s.serial ∧ s.serial < 1000000) :
    Calls Tryz.prog 47 #[.pointer (some ⟨g, 0, none⟩), .int .i64 (t : Int)] w (PX w κ g b cap vt t (advS s t r)) := by
  have ht4 : (t : Int) < 4 := by have := h.tl; omega
  have hnw : IntKind.i64.wrap (s.now + 1) = s.now + 1 := by rw [IntKind.wrap_i64]; omega
  obtain ⟨p, hp⟩ : ∃ p : S × J, p = advS s t r := ⟨_, rfl⟩
  rw [← hp]
  have HQ := Lib.hid hp
  clear hp
  have p5 : w.cell? ⟨g, 5, none⟩ = some (.int .i64 s.now) := h.blk.get 5
  have f5 : w.frozen? ⟨g, 5, none⟩ = false := h.blk.frz 5
  have h1 := h.now (s.now + 1)
  have H1 := Lib.hid h1
  clear h1 h
  go_enter Tryz.func47, Tryz.ntmps47
  go_upto_region 1 with fail
  obtain ⟨s1, hs1⟩ : ∃ s1 : S, s1 = { s with now := s.now + 1 } := ⟨_, rfl⟩
  have HS1 := Lib.hid hs1
  have hok1 : okC s1.cells = true := by rw [hs1]; exact hok
  have hlen1 : s1.log.length ≤ 1048576 := by rw [hs1]; exact hlen
  have hn1 : s1.todo.length = 4 := by rw [hs1]; exact hn
  have hsr1 : s1.serial = s.serial := by rw [hs1]
  have htd1 : s1.todo = s.todo := by rw [hs1]
  refine wp_gen (fun X => PJ X κ g b cap vt t s1 r vc vl ∧ Mv κ κ w X) ⟨by rw [hs1]; exact H1.out.1, H1.out.2⟩ ?_
  clear H1 p5 f5 hs1
  rintro X ⟨hp, hm⟩
  have HP := Lib.hid hp
  have HM := Lib.hid hm
  clear hp hm
  have p1 : X.cell? ⟨g, 1, none⟩ = some (.slice (some ⟨b, 0, none⟩) 4 cap) := HP.out.blk.get 1
  have c0 : X.cell? ⟨b, t * 18, none⟩ = some (.bool r.busy) := HP.out.jc 0 rfl
  cases hb : r.busy with
  | false =>
    rw [hb] at c0
    obtain ⟨hne, hs0, hs1⟩ := hfree hb
    obtain ⟨o, q, hoq⟩ : ∃ o q, s.todo.getD t [] = o :: q := by
      cases h : s.todo.getD t [] with
      | nil => rw [h] at hne; exact absurd hne (by decide)
      | cons o q => exact ⟨o, q, rfl⟩
    have HB := Lib.hid (iBegin_any X κ g b cap vt t s1 r vc vl HP.out hlen1 hn1 o q (by rw [htd1]; exact hoq) (by rw [hsr1]; exact hs0) (by rw [hsr1]; exact hs1))
    unfold advS at HQ
    rw [if_pos hb, hoq] at HQ
    clear HP hbusy hfree hoq hne htd1
    go_wp2_with fail
    refine HB.out.mono ?_
    rintro e X1 ⟨rfl, κ1, vc1, vl1, hp, hm⟩
    go_wp2_with fail
    go_end0
    refine ⟨rfl, κ1, vc1, vl1, ?_, HM.out.trans hm⟩
    rw [HQ.out]
    show PJ X1 κ1 g b cap vt t (startP { s with now := s.now + 1 } t o q).1 (startP { s with now := s.now + 1 } t o q).2 vc1 vl1
    rw [← HS1.out]
    exact hp
  | true =>
    rw [hb] at c0
    obtain ⟨hj, hks, hfk, hfr⟩ := hbusy hb
    unfold advS at HQ
    rw [if_neg (by rw [hb]; decide), ← HS1.out] at HQ
    have c14 : X.cell? ⟨b, t * 18 + 14, none⟩ = some (.int .i64 r.steps) := HP.out.jc 14 rfl
    have f14 : X.frozen? ⟨b, t * 18 + 14, none⟩ = false := HP.out.jf _
    have h1 := HP.out.fld 14 (by decide) (r' := { r with steps := bump r.steps }) (.int .i64 (bump r.steps)) rfl rfl
    have hbp : IntKind.i64.wrap (r.steps + 1) = bump r.steps := rfl
    obtain ⟨r1, hr1⟩ : ∃ r1 : J, r1 = { r with steps := bump r.steps } := ⟨_, rfl⟩
    have HF := Lib.hid h1
    clear h1
    rw [← hr1] at HQ HF
    have hj1 : JG t r1 := by rw [hr1]; exact ⟨hj.busy, hj.op, hj.kt, hj.place, hj.count, hj.slot, hj.what, hj.e, hj.k, hj.keys, hj.raw⟩
    have hks1 : r1.op.key.size ≤ maxLen := by rw [hr1]; exact hks
    have hfk1 : Fit r1.keys := by rw [hr1]; exact hfk
    have hfr1 : Fit r1.raw := by rw [hr1]; exact hfr
    clear hr1 hj hks hfk hfr hfree hbusy htd1 hsr1 hb
    go_upto_region 5 with fail
    refine wp_gen (fun X1 => PJ X1 κ g b cap vt t s1 r1 vc vl ∧ Mv κ κ w X1) ⟨HF.out.1, HM.out.trans HF.out.2⟩ ?_
    clear HF HP HM c0 p1 c14 f14 hbp
    rintro X1 ⟨hp, hm⟩
    obtain ⟨n, hpc, hn16⟩ : ∃ n : Nat, r1.pc = (n : Int) ∧ n < 16 := ⟨r1.pc.toNat, by have := hj1.pc16; omega, by have := hj1.pc16; omega⟩
    have c6 : X1.cell? ⟨b, t * 18 + 6, none⟩ = some (.int .i64 (n : Int)) := hpc ▸ hp.jc 6 rfl
    have HA := Lib.hid (iActionAt_any X1 n hn16)
    have HP := Lib.hid hp
    have HM := Lib.hid hm
    clear hp hm
    go_wp2_with fail
    refine HA.out.mono ?_
    rintro e X2 ⟨rfl, hb⟩
    replace HM := Lib.hid (HM.out.thn (hb.mono HM.out.size))
    replace HP := Lib.hid (HP.out.below hb)
    clear hb HA c6
    have HW := Lib.hid (work_act X2 κ g b cap vt t s1 r1 vc vl HP.out hok1 hlen1 hj1 hks1 hfk1 hfr1 n hpc hn16)
    rw [← HQ.out] at HW
    obtain ⟨m, hm, hc⟩ := HW.out
    have HC := Lib.hid hc
    clear hc HW HP hpc hj1 hks1 hfk1 hfr1 hok1 hlen1 HS1 HQ
    have HMM := Lib.hid hm
    clear hm
    rcases (show n = 0 ∨ n = 1 ∨ n = 2 ∨ n = 3 ∨ n = 4 ∨ n = 5 ∨ n = 6 ∨ n = 7 ∨ n = 8 ∨ n = 9 ∨ n = 10 ∨ n = 11 ∨ n = 12 ∨ n = 13 ∨ n = 14 ∨ n = 15 by omega) with rfl | rfl | rfl | rfl | rfl | rfl | rfl | rfl | rfl | rfl | rfl | rfl | rfl | rfl | rfl | rfl
    · have hv : actA.getD 0 undef = .func (.func 76) #[] #[] := rfl
      have hm2 := HMM.out
      rw [hv] at hm2 ⊢
      injection hm2 with hm2
      injection hm2 with hm2
      subst hm2
      clear hv HMM
      go_wp2_with fail
      refine HC.out.mono ?_
      rintro e X3 ⟨rfl, κ1, vc1, vl1, hp, hm⟩
      go_wp2_with fail
      go_end0
      exact ⟨rfl, κ1, vc1, vl1, hp, HM.out.trans hm⟩
    · have hv : actA.getD 1 undef = .func (.func 77) #[] #[] := rfl
      have hm2 := HMM.out
      rw [hv] at hm2 ⊢
      injection hm2 with hm2
      injection hm2 with hm2
      subst hm2
      clear hv HMM
      go_wp2_with fail
      refine HC.out.mono ?_
      rintro e X3 ⟨rfl, κ1, vc1, vl1, hp, hm⟩
      go_wp2_with fail
      go_end0
      exact ⟨rfl, κ1, vc1, vl1, hp, HM.out.trans hm⟩
    · have hv : actA.getD 2 undef = .func (.func 78) #[] #[] := rfl
      have hm2 := HMM.out
      rw [hv] at hm2 ⊢
      injection hm2 with hm2
      injection hm2 with hm2
      subst hm2
      clear hv HMM
      go_wp2_with fail
      refine HC.out.mono ?_
      rintro e X3 ⟨rfl, κ1, vc1, vl1, hp, hm⟩
      go_wp2_with fail
      go_end0
      exact ⟨rfl, κ1, vc1, vl1, hp, HM.out.trans hm⟩
    · have hv : actA.getD 3 undef = .func (.func 79) #[] #[] := rfl
      have hm2 := HMM.out
      rw [hv] at hm2 ⊢
      injection hm2 with hm2
      injection hm2 with hm2
      subst hm2
      clear hv HMM
      go_wp2_with fail
      refine HC.out.mono ?_
      rintro e X3 ⟨rfl, κ1, vc1, vl1, hp, hm⟩
      go_wp2_with fail
      go_end0
      exact ⟨rfl, κ1, vc1, vl1, hp, HM.out.trans hm⟩
    · have hv : actA.getD 4 undef = .func (.func 80) #[] #[] := rfl
      have hm2 := HMM.out
      rw [hv] at hm2 ⊢
      injection hm2 with hm2
      injection hm2 with hm2
      subst hm2
      clear hv HMM
      go_wp2_with fail
      refine HC.out.mono ?_
      rintro e X3 ⟨rfl, κ1, vc1, vl1, hp, hm⟩
      go_wp2_with fail
      go_end0
      exact ⟨rfl, κ1, vc1, vl1, hp, HM.out.trans hm⟩
    · have hv : actA.getD 5 undef = .func (.func 81) #[] #[] := rfl
      have hm2 := HMM.out
      rw [hv] at hm2 ⊢
      injection hm2 with hm2
      injection hm2 with hm2
      subst hm2
      clear hv HMM
      go_wp2_with fail
      refine HC.out.mono ?_
      rintro e X3 ⟨rfl, κ1, vc1, vl1, hp, hm⟩
      go_wp2_with fail
      go_end0
      exact ⟨rfl, κ1, vc1, vl1, hp, HM.out.trans hm⟩
    · have hv : actA.getD 6 undef = .func (.func 82) #[] #[] := rfl
      have hm2 := HMM.out
      rw [hv] at hm2 ⊢
      injection hm2 with hm2
      injection hm2 with hm2
      subst hm2
      clear hv HMM
      go_wp2_with fail
      refine HC.out.mono ?_
      rintro e X3 ⟨rfl, κ1, vc1, vl1, hp, hm⟩
      go_wp2_with fail
      go_end0
      exact ⟨rfl, κ1, vc1, vl1, hp, HM.out.trans hm⟩
    · have hv : actA.getD 7 undef = .func (.func 83) #[] #[] := rfl
      have hm2 := HMM.out
      rw [hv] at hm2 ⊢
      injection hm2 with hm2
      injection hm2 with hm2
      subst hm2
      clear hv HMM
      go_wp2_with fail
      refine HC.out.mono ?_
      rintro e X3 ⟨rfl, κ1, vc1, vl1, hp, hm⟩
      go_wp2_with fail
      go_end0
      exact ⟨rfl, κ1, vc1, vl1, hp, HM.out.trans hm⟩
    · have hv : actA.getD 8 undef = .func (.func 84) #[] #[] := rfl
      have hm2 := HMM.out
      rw [hv] at hm2 ⊢
      injection hm2 with hm2
      injection hm2 with hm2
      subst hm2
      clear hv HMM
      go_wp2_with fail
      refine HC.out.mono ?_
      rintro e X3 ⟨rfl, κ1, vc1, vl1, hp, hm⟩
      go_wp2_with fail
      go_end0
      exact ⟨rfl, κ1, vc1, vl1, hp, HM.out.trans hm⟩
    · have hv : actA.getD 9 undef = .func (.func 85) #[] #[] := rfl
      have hm2 := HMM.out
      rw [hv] at hm2 ⊢
      injection hm2 with hm2
      injection hm2 with hm2
      subst hm2
      clear hv HMM
      go_wp2_with fail
      refine HC.out.mono ?_
      rintro e X3 ⟨rfl, κ1, vc1, vl1, hp, hm⟩
      go_wp2_with fail
      go_end0
      exact ⟨rfl, κ1, vc1, vl1, hp, HM.out.trans hm⟩
    · have hv : actA.getD 10 undef = .func (.func 86) #[] #[] := rfl
      have hm2 := HMM.out
      rw [hv] at hm2 ⊢
      injection hm2 with hm2
      injection hm2 with hm2
      subst hm2
      clear hv HMM
      go_wp2_with fail
      refine HC.out.mono ?_
      rintro e X3 ⟨rfl, κ1, vc1, vl1, hp, hm⟩
      go_wp2_with fail
      go_end0
      exact ⟨rfl, κ1, vc1, vl1, hp, HM.out.trans hm⟩
    · have hv : actA.getD 11 undef = .func (.func 87) #[] #[] := rfl
      have hm2 := HMM.out
      rw [hv] at hm2 ⊢
      injection hm2 with hm2
      injection hm2 with hm2
      subst hm2
      clear hv HMM
      go_wp2_with fail
      refine HC.out.mono ?_
      rintro e X3 ⟨rfl, κ1, vc1, vl1, hp, hm⟩
      go_wp2_with fail
      go_end0
      exact ⟨rfl, κ1, vc1, vl1, hp, HM.out.trans hm⟩
    · have hv : actA.getD 12 undef = .func (.func 88) #[] #[] := rfl
      have hm2 := HMM.out
      rw [hv] at hm2 ⊢
      injection hm2 with hm2
      injection hm2 with hm2
      subst hm2
      clear hv HMM
      go_wp2_with fail
      refine HC.out.mono ?_
      rintro e X3 ⟨rfl, κ1, vc1, vl1, hp, hm⟩
      go_wp2_with fail
      go_end0
      exact ⟨rfl, κ1, vc1, vl1, hp, HM.out.trans hm⟩
    · have hv : actA.getD 13 undef = .func (.func 89) #[] #[] := rfl
      have hm2 := HMM.out
      rw [hv] at hm2 ⊢
      injection hm2 with hm2
      injection hm2 with hm2
      subst hm2
      clear hv HMM
      go_wp2_with fail
      refine HC.out.mono ?_
      rintro e X3 ⟨rfl, κ1, vc1, vl1, hp, hm⟩
      go_wp2_with fail
      go_end0
      exact ⟨rfl, κ1, vc1, vl1, hp, HM.out.trans hm⟩
    · have hv : actA.getD 14 undef = .func (.func 90) #[] #[] := rfl
      have hm2 := HMM.out
      rw [hv] at hm2 ⊢
      injection hm2 with hm2
      injection hm2 with hm2
      subst hm2
      clear hv HMM
      go_wp2_with fail
      refine HC.out.mono ?_
      rintro e X3 ⟨rfl, κ1, vc1, vl1, hp, hm⟩
      go_wp2_with fail
      go_end0
      exact ⟨rfl, κ1, vc1, vl1, hp, HM.out.trans hm⟩
    · have hv : actA.getD 15 undef = .func (.func 91) #[] #[] := rfl
      have hm2 := HMM.out
      rw [hv] at hm2 ⊢
      injection hm2 with hm2
      injection hm2 with hm2
      subst hm2
      clear hv HMM
      go_wp2_with fail
      refine HC.out.mono ?_
      rintro e X3 ⟨rfl, κ1, vc1, vl1, hp, hm⟩
      go_wp2_with fail
      go_end0
      exact ⟨rfl, κ1, vc1, vl1, hp, HM.out.trans hm⟩
end Go.Proofs.YtnlepnfdgdbkoaaGreatDoor
