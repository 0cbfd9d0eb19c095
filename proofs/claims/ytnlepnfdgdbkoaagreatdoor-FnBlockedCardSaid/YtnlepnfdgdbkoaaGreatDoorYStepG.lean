/-
  Texts of this seat, laid together.
-/
import Derived.Test.YtnlepnfdgdbkoaaGreatDoorYStepF
import Derived.Test.YtnlepnfdgdbkoaaGreatDoorYZa
namespace Go.Proofs.YtnlepnfdgdbkoaaGreatDoor
open Go.RowKit M
set_option linter.unusedVariables false
set_option linter.unusedSimpArgs false
def ticketS (w : S) (t : Nat) (j : J) : S × J :=
  if 3 ≤ cellV' w (jobCell j 4) then ((pointV (addCV w (jobCell j 4) 1) t j 5 j.e).1, { (pointV (addCV w (jobCell j 4) 1) t j 5 j.e).2 with pc := 9 })
  else ((pointV (addCV w (jobCell j 4) 1) t j 0 j.e).1, { (pointV (addCV w (jobCell j 4) 1) t j 0 j.e).2 with k := cellV' w (jobCell j 4), pc := 8 })
set_option maxRecDepth 100000 in
set_option maxHeartbeats 4000000 in
theorem iDrawTicket_any (w : World) (κ : Nat → Nat) (g b cap : Nat) (vt : Value) (t : Nat) (s : S) (r : J) (vc vl : Value) (h : PJ w κ g b cap vt t s r vc vl) (hok : okC s.cells = true) (hlen : s.log.length ≤ 1048576) (he : 0 ≤ r.e ∧ r.e ≤ 281474976710655) (hs : 0 ≤ r.slot ∧ r.slot ≤ 3) :
    Calls Tryz.prog 107 #[.pointer (some ⟨g, 0, none⟩), .int .i64 (t : Int), .pointer (some ⟨b, t * 18, none⟩)] w (PX w κ g b cap vt t (ticketS s t r)) := by
  have hl := okC_len hok
  have ht4 : (t : Int) < 4 := by have := h.tl; omega
  have HBF := fun W => Lib.hid (iBufOf_any W r.e he.1 he.2)
  obtain ⟨p, hp⟩ : ∃ p : S × J, p = ticketS s t r := ⟨_, rfl⟩
  rw [← hp]
  have HQ := Lib.hid hp
  clear hp
  have HP := Lib.hid h
  have HM := Lib.hid (Mv.refl κ w)
  obtain ⟨m, hm, hm71⟩ : ∃ m : Nat, jobCell r 4 = (m : Int) ∧ m < 71 := jobCell_nat hs 4 (by decide)
  unfold ticketS at HQ
  rw [hm] at HQ
  have HI := fun W => Lib.hid (iTicket_any (r.e % 2) r.slot W)
  rw [cellV_job hs, hm] at HI
  have HA := fun W (hp : PJ W κ g b cap vt t s r vc vl) => Lib.hid (iAddW_any W κ g b cap vt t s r vc vl hp hok m 1 hm71 (by omega) (by omega))
  have HLE := Lib.hid (show (addCV s m 1).log.length ≤ 1048576 from hlen)
  clear h hm hl
  generalize cellV' s (m : Int) = z at *
  generalize addCV s (m : Int) 1 = s1 at *
  go_enter Tryz.func107, Tryz.ntmps107
  go_upto_region 0 with fail
  replace HP := Lib.hid (HP.out.below (below_drew _ _))
  replace HM := Lib.hid (HM.out.thn (below_drew _ _))
  refine wp_region_held_drew (S := fun X : World => X.cell? ⟨b, t * 18 + 10, none⟩ = some (.int .i64 r.e) ∧ X.cell? ⟨b, t * 18 + 8, none⟩ = some (.int .i64 r.slot)) (by kernel_rfl) ⟨HP.out.jc 10 rfl, HP.out.jc 8 rfl⟩ (fun hHeld => ?_)
  clear hHeld
  generalize w.drew = X0 at *
  refine' wpAnyH_take (i := 0) (v := .pointer (some ⟨g, 0, none⟩)) rfl (by kernel_rfl) (by kernel_rfl) (by kernel_rfl) (fun _ _ _ h => h) (Or.inl ⟨by rfl, fun W h => by go_simp⟩) ⟨HP.out.jc 10 rfl, HP.out.jc 8 rfl⟩ ?_
  try simp only [Act.put, List.getElem_toArray, List.getElem_cons_succ, List.getElem_cons_zero, List.setIfInBounds_toArray, List.set_cons_zero, List.set_cons_succ]
  refine' wpAnyH_take (i := 1) (v := .pointer (some ⟨b, t * 18, none⟩)) rfl (by kernel_rfl) (by kernel_rfl) (by kernel_rfl) (fun _ _ _ h => h) (Or.inl ⟨by rfl, fun W h => by go_simp⟩) ⟨HP.out.jc 10 rfl, HP.out.jc 8 rfl⟩ ?_
  try simp only [Act.put, List.getElem_toArray, List.getElem_cons_succ, List.getElem_cons_zero, List.setIfInBounds_toArray, List.set_cons_zero, List.set_cons_succ]
  refine' wpAnyH_take (i := 2) (v := .pointer (some ⟨b, t * 18, none⟩)) rfl (by kernel_rfl) (by kernel_rfl) (by kernel_rfl) (fun _ _ _ h => h) (Or.inl ⟨by rfl, fun W h => by go_simp⟩) ⟨HP.out.jc 10 rfl, HP.out.jc 8 rfl⟩ ?_
  try simp only [Act.put, List.getElem_toArray, List.getElem_cons_succ, List.getElem_cons_zero, List.setIfInBounds_toArray, List.set_cons_zero, List.set_cons_succ]
  refine' wpAnyH_take (i := 3) (v := .pointer (some ⟨b, t * 18 + 10, none⟩)) rfl (by kernel_rfl) (by kernel_rfl) (by kernel_rfl) (fun _ _ _ h => h) (Or.inl ⟨by rfl, fun W h => by go_simp⟩) ⟨HP.out.jc 10 rfl, HP.out.jc 8 rfl⟩ ?_
  try simp only [Act.put, List.getElem_toArray, List.getElem_cons_succ, List.getElem_cons_zero, List.setIfInBounds_toArray, List.set_cons_zero, List.set_cons_succ]
  refine' wpAnyH_take (i := 4) (v := .int .i64 r.e) rfl (by kernel_rfl) (by kernel_rfl) (by kernel_rfl) (fun _ _ _ h => h) (Or.inl ⟨by rfl, fun W h => by have q : W.cell? ⟨b, t * 18 + 10, none⟩ = some (.int .i64 r.e) := h.1; go_simp⟩) ⟨HP.out.jc 10 rfl, HP.out.jc 8 rfl⟩ ?_
  try simp only [Act.put, List.getElem_toArray, List.getElem_cons_succ, List.getElem_cons_zero, List.setIfInBounds_toArray, List.set_cons_zero, List.set_cons_succ]
  refine' wpAnyH_take (i := 6) (v := .pointer (some ⟨b, t * 18, none⟩)) rfl (by kernel_rfl) (by kernel_rfl) (by kernel_rfl) (fun _ _ _ h => h) (Or.inl ⟨by rfl, fun W h => by go_simp⟩) ⟨HP.out.jc 10 rfl, HP.out.jc 8 rfl⟩ ?_
  try simp only [Act.put, List.getElem_toArray, List.getElem_cons_succ, List.getElem_cons_zero, List.setIfInBounds_toArray, List.set_cons_zero, List.set_cons_succ]
  refine' wpAnyH_take (i := 7) (v := .pointer (some ⟨b, t * 18, none⟩)) rfl (by kernel_rfl) (by kernel_rfl) (by kernel_rfl) (fun _ _ _ h => h) (Or.inl ⟨by rfl, fun W h => by go_simp⟩) ⟨HP.out.jc 10 rfl, HP.out.jc 8 rfl⟩ ?_
  try simp only [Act.put, List.getElem_toArray, List.getElem_cons_succ, List.getElem_cons_zero, List.setIfInBounds_toArray, List.set_cons_zero, List.set_cons_succ]
  refine' wpAnyH_take (i := 8) (v := .pointer (some ⟨b, t * 18 + 8, none⟩)) rfl (by kernel_rfl) (by kernel_rfl) (by kernel_rfl) (fun _ _ _ h => h) (Or.inl ⟨by rfl, fun W h => by go_simp⟩) ⟨HP.out.jc 10 rfl, HP.out.jc 8 rfl⟩ ?_
  try simp only [Act.put, List.getElem_toArray, List.getElem_cons_succ, List.getElem_cons_zero, List.setIfInBounds_toArray, List.set_cons_zero, List.set_cons_succ]
  refine' wpAnyH_take (i := 9) (v := .int .i64 r.slot) rfl (by kernel_rfl) (by kernel_rfl) (by kernel_rfl) (fun _ _ _ h => h) (Or.inl ⟨by rfl, fun W h => by have q : W.cell? ⟨b, t * 18 + 8, none⟩ = some (.int .i64 r.slot) := h.2; go_simp⟩) ⟨HP.out.jc 10 rfl, HP.out.jc 8 rfl⟩ ?_
  try simp only [Act.put, List.getElem_toArray, List.getElem_cons_succ, List.getElem_cons_zero, List.setIfInBounds_toArray, List.set_cons_zero, List.set_cons_succ]
  refine wpAnyH_ready (rs := [5]) (by kernel_rfl) (by simp) ?_
  refine AllReadyH.cons rfl (fun K hK => ?_) AllReadyH.nil
  go_simp
  refine (HBF _).out.mono ?_
  rintro e W9 ⟨rfl, rfl⟩
  refine hK.out _ _ ⟨HP.out.jc 10 rfl, HP.out.jc 8 rfl⟩ (fun hHeld => ?_)
  clear hK K hHeld
  try simp only [Act.put, List.getElem_toArray, List.getElem_cons_succ, List.getElem_cons_zero, List.setIfInBounds_toArray, List.set_cons_zero, List.set_cons_succ]
  refine wpAnyH_ready (rs := [10]) (by kernel_rfl) (by simp) ?_
  refine AllReadyH.cons rfl (fun K hK => ?_) AllReadyH.nil
  go_simp
  refine (HI _).out.mono ?_
  rintro e W9 ⟨rfl, rfl⟩
  refine hK.out _ _ ⟨HP.out.jc 10 rfl, HP.out.jc 8 rfl⟩ (fun hHeld => ?_)
  clear hK K hHeld
  try simp only [Act.put, List.getElem_toArray, List.getElem_cons_succ, List.getElem_cons_zero, List.setIfInBounds_toArray, List.set_cons_zero, List.set_cons_succ]
  refine wpAnyH_ready (rs := [11]) (by kernel_rfl) (by simp) ?_
  refine AllReadyH.cons rfl (fun K hK => ?_) AllReadyH.nil
  go_simp
  refine (HA _ HP.out).out.mono ?_
  rintro e X1 ⟨rfl, κ1, vc1, vl1, hp, hm⟩
  have HM1 := Lib.hid (HM.out.trans hm)
  clear HP HM hm
  have HP := Lib.hid hp
  have HM := Lib.hid HM1.out
  clear hp HM1
  refine hK.out _ _ ⟨HP.out.jc 10 rfl, HP.out.jc 8 rfl⟩ (fun hHeld => ?_)
  clear hK K hHeld
  try simp only [Act.put, List.getElem_toArray, List.getElem_cons_succ, List.getElem_cons_zero, List.setIfInBounds_toArray, List.set_cons_zero, List.set_cons_succ]
  refine' wpAnyH_take (i := 12) (v := .int .i64 z) rfl (by kernel_rfl) (by kernel_rfl) (by kernel_rfl) (fun _ _ _ h => h) (Or.inl ⟨by rfl, fun W h => by go_simp⟩) ⟨HP.out.jc 10 rfl, HP.out.jc 8 rfl⟩ ?_
  try simp only [Act.put, List.getElem_toArray, List.getElem_cons_succ, List.getElem_cons_zero, List.setIfInBounds_toArray, List.set_cons_zero, List.set_cons_succ]
  refine wpAnyH_done (by kernel_rfl) ?_ _
  by_cases h3 : 3 ≤ z
  · have d1 : decide (3 ≤ z) = true := decide_eq_true h3
    replace HQ := Lib.hid (HQ.out.trans (if_pos h3))
    clear h3
    have c10 : X1.cell? ⟨b, t * 18 + 10, none⟩ = some (.int .i64 r.e) := HP.out.jc 10 rfl
    have HT := Lib.hid (iTake_any X1 κ1 g b cap vt t s1 r vc1 vl1 HP.out HLE.out 5 r.e)
    clear HP
    go_wp2_with fail
    refine HT.out.mono ?_
    rintro e X2 ⟨rfl, κ2, vc2, vl2, hp, hm⟩
    clear HT c10
    have HM2 := Lib.hid (HM.out.trans hm)
    clear hm HM
    generalize pointV s1 t r 5 r.e = p2 at *
    obtain ⟨s2, r2⟩ := p2
    simp only at hp HQ
    have HP := Lib.hid hp
    clear hp
    have c6 : X2.cell? ⟨b, t * 18 + 6, none⟩ = some (.int .i64 (r2 : J).pc) := HP.out.jc 6 rfl
    have f6 : X2.frozen? ⟨b, t * 18 + 6, none⟩ = false := HP.out.jf _
    have h1 := (HP.out).fld 6 (by decide) (r' := { r2 with pc := 9 }) (.int .i64 (9)) rfl rfl
    have HF := Lib.hid (h1.1)
    have HG := Lib.hid ((HM2.out).trans h1.2)
    clear HP HM2 h1
    go_wp2_with fail
    go_end0
    rw [HQ.out]
    exact ⟨rfl, κ2, _, vl2, HF.out, HG.out⟩
  · have d1 : decide (3 ≤ z) = false := decide_eq_false h3
    replace HQ := Lib.hid (HQ.out.trans (if_neg h3))
    clear h3
    have c10 : X1.cell? ⟨b, t * 18 + 10, none⟩ = some (.int .i64 r.e) := HP.out.jc 10 rfl
    have HT := Lib.hid (iTake_any X1 κ1 g b cap vt t s1 r vc1 vl1 HP.out HLE.out 0 r.e)
    clear HP
    go_wp2_with fail
    refine HT.out.mono ?_
    rintro e X2 ⟨rfl, κ2, vc2, vl2, hp, hm⟩
    clear HT c10
    have HM2 := Lib.hid (HM.out.trans hm)
    clear hm HM
    generalize pointV s1 t r 0 r.e = p2 at *
    obtain ⟨s2, r2⟩ := p2
    simp only at hp HQ
    have HP := Lib.hid hp
    clear hp
    have c7 : X2.cell? ⟨b, t * 18 + 7, none⟩ = some (.int .i64 (r2 : J).k) := HP.out.jc 7 rfl
    have f7 : X2.frozen? ⟨b, t * 18 + 7, none⟩ = false := HP.out.jf _
    have c6 : X2.cell? ⟨b, t * 18 + 6, none⟩ = some (.int .i64 (r2 : J).pc) := HP.out.jc 6 rfl
    have f6 : X2.frozen? ⟨b, t * 18 + 6, none⟩ = false := HP.out.jf _
    have h1 := (HP.out).fld 7 (by decide) (r' := { r2 with k := z }) (.int .i64 (z)) rfl rfl
    have h2 := (h1.1).fld 6 (by decide) (r' := { r2 with k := z, pc := 8 }) (.int .i64 (8)) rfl rfl
    have HF := Lib.hid (h2.1)
    have HG := Lib.hid (((HM2.out).trans h1.2).trans h2.2)
    clear HP HM2 h1 h2
    go_wp2_with fail
    go_end0
    rw [HQ.out]
    exact ⟨rfl, κ2, _, vl2, HF.out, HG.out⟩
set_option maxRecDepth 100000 in
set_option maxHeartbeats 4000000 in
theorem iRecordData_any (w : World) (κ : Nat → Nat) (g b cap : Nat) (vt : Value) (t : Nat) (s : S) (r : J) (vc vl : Value) (h : PJ w κ g b cap vt t s r vc vl) (hok : okC s.cells = true) (hlen : s.log.length ≤ 1048576) (he : 0 ≤ r.e ∧ r.e ≤ 281474976710655) (hs : 0 ≤ r.slot ∧ r.slot ≤ 3) (hv : 0 ≤ r.op.val ∧ r.op.val ≤ 65535) :
    Calls Tryz.prog 81 #[.pointer (some ⟨g, 0, none⟩), .int .i64 (t : Int), .pointer (some ⟨b, t * 18, none⟩)] w (PX w κ g b cap vt t (dataS s t r)) := by
  have hl := okC_len hok
  have ht4 : (t : Int) < 4 := by have := h.tl; omega
  have HBF := fun W => Lib.hid (iBufOf_any W r.e he.1 he.2)
  obtain ⟨p, hp⟩ : ∃ p : S × J, p = dataS s t r := ⟨_, rfl⟩
  rw [← hp]
  have HQ := Lib.hid hp
  clear hp
  have HP := Lib.hid h
  have HM := Lib.hid (Mv.refl κ w)
  unfold dataS at HQ
  obtain ⟨m, hm, hm71⟩ : ∃ m : Nat, jobCell r ((t : Int) % 2) = (m : Int) ∧ m < 71 := jobCell_nat hs _ (by omega)
  obtain ⟨n, hn, hn71⟩ : ∃ n : Nat, jobCell r 2 = (n : Int) ∧ n < 71 := jobCell_nat hs 2 (by decide)
  have HS := fun W => Lib.hid (iStripe_any (r.e % 2) r.slot ((t : Int) % 2) W)
  rw [partV_yes (by omega), Int.zero_add, cellV_job hs, hm] at HS
  have HST := fun W => Lib.hid (iStamp_any (r.e % 2) r.slot W)
  rw [cellV_job hs, hn] at HST
  have HA := fun W (hp : PJ W κ g b cap vt t s r vc vl) => Lib.hid (iAddW_any W κ g b cap vt t s r vc vl hp hok m r.op.val hm71 (by omega) (by omega))
  have HB := fun W (hp : PJ W κ g b cap vt t s r vc vl) => Lib.hid (iAddW_any W κ g b cap vt t s r vc vl hp hok n 1 hn71 (by omega) (by omega))
  have HD := Lib.hid (iDrawTicket_any w κ g b cap vt t s r vc vl h hok hlen he hs)
  have HLA := Lib.hid (show (addCV s m r.op.val).log.length ≤ 1048576 from hlen)
  have HLB := Lib.hid (show (addCV s n 1).log.length ≤ 1048576 from hlen)
  have HZ := Lib.hid (show (addCV s n 1).cells.getD n 0 = modW (cellV' s n + 1) by unfold addCV putV' cellV'; rw [Int.toNat_natCast]; exact getD_set _ _ _ _ (by omega))
  have HL1 := Lib.hid (show (addCV s n 1).cells.length = 71 by unfold addCV putV'; exact (set_len _ _ _).trans hl)
  have hni : (n : Int) < 71 := by omega
  have c9 : w.cell? ⟨b, t * 18 + 9, none⟩ = some (.int .i64 r.what) := HP.out.jc 9 rfl
  have c10 : w.cell? ⟨b, t * 18 + 10, none⟩ = some (.int .i64 r.e) := HP.out.jc 10 rfl
  have c8 : w.cell? ⟨b, t * 18 + 8, none⟩ = some (.int .i64 r.slot) := HP.out.jc 8 rfl
  rw [hm, hn] at HQ
  have HTD := Lib.hid (show ticketS s t r = ticketS s t r from rfl)
  clear h hm hn hl
  go_enter Tryz.func81, Tryz.ntmps81
  by_cases h1 : r.what = 1
  · have d1 : (r.what == 1) = true := by rw [beq_iff_eq]; exact h1
    replace HQ := Lib.hid (HQ.out.trans (if_pos h1))
    clear h1 HD HB HZ HL1
    generalize addCV s (m : Int) r.op.val = s1 at *
    have HLE := HLA
    go_upto_region 4 with (first | (go_at_call 103; refine (HBF _).out.mono ?_; rintro e w' ⟨rfl, rfl⟩) | (go_at_call 106; refine (HST _).out.mono ?_; rintro e w' ⟨rfl, rfl⟩))
    clear c9 c10 c8
    replace HP := Lib.hid (HP.out.below (below_drew _ _))
    replace HM := Lib.hid (HM.out.thn (below_drew _ _))
    refine wp_region_held_drew (S := fun X : World => X.cell? ⟨b, t * 18 + 8, none⟩ = some (.int .i64 r.slot) ∧ X.cell? ⟨b, t * 18 + 4, none⟩ = some (.int .i64 r.op.val)) (by kernel_rfl) ⟨HP.out.jc 8 rfl, HP.out.jc 4 rfl⟩ (fun hHeld => ?_)
    clear hHeld
    generalize w.drew = X0 at *
    refine' wpAnyH_take (i := 0) (v := .pointer (some ⟨g, 0, none⟩)) rfl (by kernel_rfl) (by kernel_rfl) (by kernel_rfl) (fun _ _ _ h => h) (Or.inl ⟨by rfl, fun W h => by go_simp⟩) ⟨HP.out.jc 8 rfl, HP.out.jc 4 rfl⟩ ?_
    try simp only [Act.put, List.getElem_toArray, List.getElem_cons_succ, List.getElem_cons_zero, List.setIfInBounds_toArray, List.set_cons_zero, List.set_cons_succ]
    refine' wpAnyH_take (i := 1) (v := .int .i64 (r.e % 2)) rfl (by kernel_rfl) (by kernel_rfl) (by kernel_rfl) (fun _ _ _ h => h) (Or.inl ⟨by rfl, fun W h => by go_simp⟩) ⟨HP.out.jc 8 rfl, HP.out.jc 4 rfl⟩ ?_
    try simp only [Act.put, List.getElem_toArray, List.getElem_cons_succ, List.getElem_cons_zero, List.setIfInBounds_toArray, List.set_cons_zero, List.set_cons_succ]
    refine' wpAnyH_take (i := 2) (v := .pointer (some ⟨b, t * 18, none⟩)) rfl (by kernel_rfl) (by kernel_rfl) (by kernel_rfl) (fun _ _ _ h => h) (Or.inl ⟨by rfl, fun W h => by go_simp⟩) ⟨HP.out.jc 8 rfl, HP.out.jc 4 rfl⟩ ?_
    try simp only [Act.put, List.getElem_toArray, List.getElem_cons_succ, List.getElem_cons_zero, List.setIfInBounds_toArray, List.set_cons_zero, List.set_cons_succ]
    refine' wpAnyH_take (i := 3) (v := .pointer (some ⟨b, t * 18, none⟩)) rfl (by kernel_rfl) (by kernel_rfl) (by kernel_rfl) (fun _ _ _ h => h) (Or.inl ⟨by rfl, fun W h => by go_simp⟩) ⟨HP.out.jc 8 rfl, HP.out.jc 4 rfl⟩ ?_
    try simp only [Act.put, List.getElem_toArray, List.getElem_cons_succ, List.getElem_cons_zero, List.setIfInBounds_toArray, List.set_cons_zero, List.set_cons_succ]
    refine' wpAnyH_take (i := 4) (v := .pointer (some ⟨b, t * 18 + 8, none⟩)) rfl (by kernel_rfl) (by kernel_rfl) (by kernel_rfl) (fun _ _ _ h => h) (Or.inl ⟨by rfl, fun W h => by go_simp⟩) ⟨HP.out.jc 8 rfl, HP.out.jc 4 rfl⟩ ?_
    try simp only [Act.put, List.getElem_toArray, List.getElem_cons_succ, List.getElem_cons_zero, List.setIfInBounds_toArray, List.set_cons_zero, List.set_cons_succ]
    refine' wpAnyH_take (i := 5) (v := .int .i64 r.slot) rfl (by kernel_rfl) (by kernel_rfl) (by kernel_rfl) (fun _ _ _ h => h) (Or.inl ⟨by rfl, fun W h => by have q : W.cell? ⟨b, t * 18 + 8, none⟩ = some (.int .i64 r.slot) := h.1; go_simp⟩) ⟨HP.out.jc 8 rfl, HP.out.jc 4 rfl⟩ ?_
    try simp only [Act.put, List.getElem_toArray, List.getElem_cons_succ, List.getElem_cons_zero, List.setIfInBounds_toArray, List.set_cons_zero, List.set_cons_succ]
    refine' wpAnyH_take (i := 6) (v := .int .i64 (t : Int)) rfl (by kernel_rfl) (by kernel_rfl) (by kernel_rfl) (fun _ _ _ h => h) (Or.inl ⟨by rfl, fun W h => by go_simp⟩) ⟨HP.out.jc 8 rfl, HP.out.jc 4 rfl⟩ ?_
    try simp only [Act.put, List.getElem_toArray, List.getElem_cons_succ, List.getElem_cons_zero, List.setIfInBounds_toArray, List.set_cons_zero, List.set_cons_succ]
    refine' wpAnyH_take (i := 7) (v := .int .i64 ((t : Int) % 2)) rfl (by kernel_rfl) (by kernel_rfl) (by kernel_rfl) (fun _ _ _ h => h) (Or.inl ⟨by rfl, fun W h => by go_simp; exact Int.tmod_eq_emod_of_nonneg (by omega)⟩) ⟨HP.out.jc 8 rfl, HP.out.jc 4 rfl⟩ ?_
    try simp only [Act.put, List.getElem_toArray, List.getElem_cons_succ, List.getElem_cons_zero, List.setIfInBounds_toArray, List.set_cons_zero, List.set_cons_succ]
    refine' wpAnyH_take (i := 9) (v := .pointer (some ⟨b, t * 18, none⟩)) rfl (by kernel_rfl) (by kernel_rfl) (by kernel_rfl) (fun _ _ _ h => h) (Or.inl ⟨by rfl, fun W h => by go_simp⟩) ⟨HP.out.jc 8 rfl, HP.out.jc 4 rfl⟩ ?_
    try simp only [Act.put, List.getElem_toArray, List.getElem_cons_succ, List.getElem_cons_zero, List.setIfInBounds_toArray, List.set_cons_zero, List.set_cons_succ]
    refine' wpAnyH_take (i := 10) (v := .pointer (some ⟨b, t * 18, none⟩)) rfl (by kernel_rfl) (by kernel_rfl) (by kernel_rfl) (fun _ _ _ h => h) (Or.inl ⟨by rfl, fun W h => by go_simp⟩) ⟨HP.out.jc 8 rfl, HP.out.jc 4 rfl⟩ ?_
    try simp only [Act.put, List.getElem_toArray, List.getElem_cons_succ, List.getElem_cons_zero, List.setIfInBounds_toArray, List.set_cons_zero, List.set_cons_succ]
    refine' wpAnyH_take (i := 11) (v := .pointer (some ⟨b, t * 18 + 1, none⟩)) rfl (by kernel_rfl) (by kernel_rfl) (by kernel_rfl) (fun _ _ _ h => h) (Or.inl ⟨by rfl, fun W h => by go_simp⟩) ⟨HP.out.jc 8 rfl, HP.out.jc 4 rfl⟩ ?_
    try simp only [Act.put, List.getElem_toArray, List.getElem_cons_succ, List.getElem_cons_zero, List.setIfInBounds_toArray, List.set_cons_zero, List.set_cons_succ]
    refine' wpAnyH_take (i := 12) (v := .pointer (some ⟨b, t * 18 + 4, none⟩)) rfl (by kernel_rfl) (by kernel_rfl) (by kernel_rfl) (fun _ _ _ h => h) (Or.inl ⟨by rfl, fun W h => by go_simp⟩) ⟨HP.out.jc 8 rfl, HP.out.jc 4 rfl⟩ ?_
    try simp only [Act.put, List.getElem_toArray, List.getElem_cons_succ, List.getElem_cons_zero, List.setIfInBounds_toArray, List.set_cons_zero, List.set_cons_succ]
    refine' wpAnyH_take (i := 13) (v := .int .i64 r.op.val) rfl (by kernel_rfl) (by kernel_rfl) (by kernel_rfl) (fun _ _ _ h => h) (Or.inl ⟨by rfl, fun W h => by have q : W.cell? ⟨b, t * 18 + 4, none⟩ = some (.int .i64 r.op.val) := h.2; go_simp⟩) ⟨HP.out.jc 8 rfl, HP.out.jc 4 rfl⟩ ?_
    try simp only [Act.put, List.getElem_toArray, List.getElem_cons_succ, List.getElem_cons_zero, List.setIfInBounds_toArray, List.set_cons_zero, List.set_cons_succ]
    refine wpAnyH_ready (rs := [8]) (by kernel_rfl) (by simp) ?_
    refine AllReadyH.cons rfl (fun K hK => ?_) AllReadyH.nil
    go_simp
    refine (HS _).out.mono ?_
    rintro e W9 ⟨rfl, rfl⟩
    refine hK.out _ _ ⟨HP.out.jc 8 rfl, HP.out.jc 4 rfl⟩ (fun hHeld => ?_)
    clear hK K hHeld
    try simp only [Act.put, List.getElem_toArray, List.getElem_cons_succ, List.getElem_cons_zero, List.setIfInBounds_toArray, List.set_cons_zero, List.set_cons_succ]
    refine wpAnyH_ready (rs := [14]) (by kernel_rfl) (by simp) ?_
    refine AllReadyH.cons rfl (fun K hK => ?_) AllReadyH.nil
    go_simp
    refine (HA _ HP.out).out.mono ?_
    rintro e X1 ⟨rfl, κ1, vc1, vl1, hp, hm⟩
    have HM1 := Lib.hid (HM.out.trans hm)
    clear HP HM hm
    have HP := Lib.hid hp
    have HM := Lib.hid HM1.out
    clear hp HM1
    refine hK.out _ _ ⟨HP.out.jc 8 rfl, HP.out.jc 4 rfl⟩ (fun hHeld => ?_)
    clear hK K hHeld
    try simp only [Act.put, List.getElem_toArray, List.getElem_cons_succ, List.getElem_cons_zero, List.setIfInBounds_toArray, List.set_cons_zero, List.set_cons_succ]
    refine wpAnyH_done (by kernel_rfl) ?_ _
    have c10 : X1.cell? ⟨b, t * 18 + 10, none⟩ = some (.int .i64 r.e) := HP.out.jc 10 rfl
    have HT := Lib.hid (iTake_any X1 κ1 g b cap vt t s1 r vc1 vl1 HP.out HLE.out 0 r.e)
    clear HP
    go_wp2_with fail
    refine HT.out.mono ?_
    rintro e X2 ⟨rfl, κ2, vc2, vl2, hp, hm⟩
    clear HT c10
    have HM2 := Lib.hid (HM.out.trans hm)
    clear hm HM
    generalize pointV s1 t r 0 r.e = p2 at *
    obtain ⟨s2, r2⟩ := p2
    simp only at hp HQ
    have HP := Lib.hid hp
    clear hp
    have c6 : X2.cell? ⟨b, t * 18 + 6, none⟩ = some (.int .i64 (r2 : J).pc) := HP.out.jc 6 rfl
    have f6 : X2.frozen? ⟨b, t * 18 + 6, none⟩ = false := HP.out.jf _
    have h1 := (HP.out).fld 6 (by decide) (r' := { r2 with pc := 9 }) (.int .i64 (9)) rfl rfl
    have HF := Lib.hid (h1.1)
    have HG := Lib.hid ((HM2.out).trans h1.2)
    clear HP HM2 h1
    go_wp2_with fail
    go_end0
    rw [HQ.out]
    exact ⟨rfl, κ2, _, vl2, HF.out, HG.out⟩
  · have d1 : (r.what == 1) = false := by rw [beq_eq_false_iff_ne]; exact h1
    replace HQ := Lib.hid (HQ.out.trans (if_neg h1))
    clear h1 HA
    by_cases h2 : r.what = 2
    · have d2 : (r.what == 2) = true := by rw [beq_iff_eq]; exact h2
      replace HQ := Lib.hid (HQ.out.trans (if_pos h2))
      clear h2 HD
      have HLE := HLB
      have HB1 := Lib.hid (HB w HP.out).out
      clear HB HLA HLB
      generalize cellV' s (n : Int) = z at *
      obtain ⟨s1, hs1⟩ : ∃ s1, addCV s (n : Int) 1 = s1 := ⟨_, rfl⟩
      rw [hs1] at HQ HLE HZ HL1 HB1
      clear hs1
      generalize modW (z + 1) = zn at *
      go_wp2_with (first | (go_at_call 103; refine (HBF _).out.mono ?_; rintro e w' ⟨rfl, rfl⟩) | (go_at_call 106; refine (HST _).out.mono ?_; rintro e w' ⟨rfl, rfl⟩))
      refine HB1.out.mono ?_
      rintro e X1 ⟨rfl, κ1, vc1, vl1, hp, hm⟩
      have HM1 := Lib.hid (HM.out.trans hm)
      clear HP HM hm c9 c10 c8 HB1
      have HP := Lib.hid hp
      have HM := Lib.hid HM1.out
      clear hp HM1
      have HC1 := Lib.hid (show (pointV s1 t r 0 r.e).1.cells = s1.cells from rfl)
      have c10 : X1.cell? ⟨b, t * 18 + 10, none⟩ = some (.int .i64 r.e) := HP.out.jc 10 rfl
      have HT := Lib.hid (iTake_any X1 κ1 g b cap vt t s1 r vc1 vl1 HP.out HLE.out 0 r.e)
      clear HP
      go_wp2_with fail
      refine HT.out.mono ?_
      rintro e X2 ⟨rfl, κ2, vc2, vl2, hp, hm⟩
      clear HT c10
      have HM2 := Lib.hid (HM.out.trans hm)
      clear hm HM
      generalize pointV s1 t r 0 r.e = p2 at *
      obtain ⟨s2, r2⟩ := p2
      simp only at hp HQ
      have HP := Lib.hid hp
      clear hp
      have HZ2 := Lib.hid (show s2.cells.getD n 0 = zn by rw [show s2.cells = s1.cells from HC1.out]; exact HZ.out)
      have hl2 : s2.cells.length = 71 := by rw [show s2.cells = s1.cells from HC1.out]; exact HL1.out
      obtain ⟨cb2, cc2, rfl⟩ := HP.out.vcs hl2
      have p0 : X2.cell? ⟨g, 0, none⟩ = some (.slice (some ⟨cb2, 0, none⟩) 71 cc2) := HP.out.blk.get 0
      have ce : X2.cell? ⟨cb2, n, none⟩ = some (.int .i64 zn) := HZ2.out ▸ HP.out.cc hl2 n hn71
      clear hl2 HZ HZ2 HC1 HL1
      have c11 : X2.cell? ⟨b, t * 18 + 11, none⟩ = some (.int .i64 (r2 : J).stamp) := HP.out.jc 11 rfl
      have f11 : X2.frozen? ⟨b, t * 18 + 11, none⟩ = false := HP.out.jf _
      have c6 : X2.cell? ⟨b, t * 18 + 6, none⟩ = some (.int .i64 (r2 : J).pc) := HP.out.jc 6 rfl
      have f6 : X2.frozen? ⟨b, t * 18 + 6, none⟩ = false := HP.out.jf _
      have h1 := (HP.out).fld 11 (by decide) (r' := { r2 with stamp := zn }) (.int .i64 (zn)) rfl rfl
      have h2 := (h1.1).fld 6 (by decide) (r' := { r2 with stamp := zn, pc := 6 }) (.int .i64 (6)) rfl rfl
      have HF := Lib.hid (h2.1)
      have HG := Lib.hid (((HM2.out).trans h1.2).trans h2.2)
      clear HP HM2 h1 h2
      go_wp2_with fail
      go_end0
      rw [HQ.out]
      exact ⟨rfl, κ2, _, vl2, HF.out, HG.out⟩
    · have d2 : (r.what == 2) = false := by rw [beq_eq_false_iff_ne]; exact h2
      replace HQ := Lib.hid (HQ.out.trans (if_neg h2))
      clear h2 HB HP HM
      go_wp2_with (first | (go_at_call 103; refine (HBF _).out.mono ?_; rintro e w' ⟨rfl, rfl⟩) | (go_at_call 106; refine (HST _).out.mono ?_; rintro e w' ⟨rfl, rfl⟩))
      refine HD.out.mono ?_
      rintro e X1 ⟨rfl, κ1, vc1, vl1, hp, hm⟩
      go_wp2_with fail
      go_end0
      rw [HQ.out]
      exact ⟨rfl, κ1, vc1, vl1, hp, hm⟩
set_option maxRecDepth 100000 in
set_option maxHeartbeats 4000000 in
theorem iProbeKey_any (w : World) (κ : Nat → Nat) (g b cap : Nat) (vt : Value) (t : Nat) (s : S) (r : J) (vc vl : Value) (h : PJ w κ g b cap vt t s r vc vl) (hok : okC s.cells = true) (hlen : s.log.length ≤ 1048576) (hk : 0 ≤ r.k ∧ r.k ≤ 3) (hkey : keyOkV r.op.key = true) (hks : r.op.key.size ≤ maxLen) :
    Calls Tryz.prog 76 #[.pointer (some ⟨g, 0, none⟩), .int .i64 (t : Int), .pointer (some ⟨b, t * 18, none⟩)] w (PX w κ g b cap vt t (probeS s t r)) := by
  have hl := okC_len hok
  obtain ⟨cb, cc, rfl⟩ := h.vcs hl
  have ht4 : (t : Int) < 4 := by have := h.tl; omega
  obtain ⟨p, hp⟩ : ∃ p : S × J, p = probeS s t r := ⟨_, rfl⟩
  rw [← hp]
  unfold probeS at hp
  simp only at hp
  have HQ := Lib.hid hp
  clear hp
  have HP := Lib.hid h
  have HM := Lib.hid (Mv.refl κ w)
  obtain ⟨m, hm, hm71⟩ : ∃ m : Nat, 3 + probeV r.op.key r.k = (m : Int) ∧ m < 71 := by have := probe_range hkey hk; exact ⟨(3 + probeV r.op.key r.k).toNat, by omega, by omega⟩
  have hmi : (m : Int) < 71 := by omega
  have HPR := fun W => Lib.hid (iProbe_same W r.op.key r.k hks)
  have HKC := fun W => Lib.hid (iKey_any (probeV r.op.key r.k) W)
  rw [keyV_yes (probe_range hkey hk), hm] at HKC
  obtain ⟨z, hz⟩ : ∃ z, s.cells.getD m 0 = z := ⟨_, rfl⟩
  have HR := Lib.hid (show cellV' s (3 + probeV r.op.key r.k) = z by unfold cellV'; rw [hm, Int.toNat_natCast]; exact hz)
  rw [HR.out] at HQ
  obtain ⟨z0, z1⟩ := okC_at hok m hm71
  rw [hz] at z0 z1
  have HU := fun W => Lib.hid (iUntag_any W z (by omega) (by omega))
  rw [untT_pair] at HU
  have c2 : w.cell? ⟨b, t * 18 + 2, none⟩ = some (.string r.op.key) := h.jc 2 rfl
  have c7 : w.cell? ⟨b, t * 18 + 7, none⟩ = some (.int .i64 r.k) := h.jc 7 rfl
  have p0 : w.cell? ⟨g, 0, none⟩ = some (.slice (some ⟨cb, 0, none⟩) 71 cc) := h.blk.get 0
  have ce : w.cell? ⟨cb, m, none⟩ = some (.int .i64 z) := hz ▸ h.cc hl m hm71
  have k0 := hk.1
  have k1 := hk.2
  have hkw : IntKind.i64.wrap (r.k + 1) = r.k + 1 := by rw [IntKind.wrap_i64]; omega
  clear hz hm h hl HR hk z0 z1
  generalize probeV r.op.key r.k = pv at *
  generalize tagKey z = tk at *
  generalize tagKind z = kd at *
  go_enter Tryz.func76, Tryz.ntmps76
  go_wp2_with fail
  have HSD := Lib.hid (show w.drew.cell? ⟨b, t * 18 + 2, none⟩ = some (.string r.op.key) ∧ w.drew.cell? ⟨b, t * 18 + 7, none⟩ = some (.int .i64 r.k) ∧ w.drew.cell? ⟨g, 0, none⟩ = some ((.slice (some ⟨cb, 0, none⟩) 71 cc)) ∧ w.drew.cell? ⟨cb, m, none⟩ = some (.int .i64 z) ∧ PJ w.drew κ g b cap vt t s r (.slice (some ⟨cb, 0, none⟩) 71 cc) vl ∧ Mv κ κ w w.drew from ⟨c2, c7, p0, ce, (HP.out).below (below_drew _ _), (HM.out).thn (below_drew _ _)⟩)
  have HCL := (⟨HSD.out⟩ : HoldsC (fun W => W.cell? ⟨b, t * 18 + 2, none⟩ = some (.string r.op.key) ∧ W.cell? ⟨b, t * 18 + 7, none⟩ = some (.int .i64 r.k) ∧ W.cell? ⟨g, 0, none⟩ = some ((.slice (some ⟨cb, 0, none⟩) 71 cc)) ∧ W.cell? ⟨cb, m, none⟩ = some (.int .i64 z) ∧ PJ W κ g b cap vt t s r (.slice (some ⟨cb, 0, none⟩) 71 cc) vl ∧ Mv κ κ w W) _)
  have hall : ∀ p : Prop, (∀ W, HoldsC (fun W => W.cell? ⟨b, t * 18 + 2, none⟩ = some (.string r.op.key) ∧ W.cell? ⟨b, t * 18 + 7, none⟩ = some (.int .i64 r.k) ∧ W.cell? ⟨g, 0, none⟩ = some ((.slice (some ⟨cb, 0, none⟩) 71 cc)) ∧ W.cell? ⟨cb, m, none⟩ = some (.int .i64 z) ∧ PJ W κ g b cap vt t s r (.slice (some ⟨cb, 0, none⟩) 71 cc) vl ∧ Mv κ κ w W) W → p) ↔ p := fun p => ⟨fun h => h _ HCL, fun h _ _ => h⟩
  refine wp_region_wq (C := HoldsC (fun W => W.cell? ⟨b, t * 18 + 2, none⟩ = some (.string r.op.key) ∧ W.cell? ⟨b, t * 18 + 7, none⟩ = some (.int .i64 r.k) ∧ W.cell? ⟨g, 0, none⟩ = some ((.slice (some ⟨cb, 0, none⟩) 71 cc)) ∧ W.cell? ⟨cb, m, none⟩ = some (.int .i64 z) ∧ PJ W κ g b cap vt t s r (.slice (some ⟨cb, 0, none⟩) 71 cc) vl ∧ Mv κ κ w W)) (by kernel_rfl) (by kernel_rfl) HCL ?_
  repeat (refine WQ.step (fun K hK => ?_); go_simp; first | (refine hK _ ?_; clear hK K) | (apply Exists.intro; refine ⟨fun W hW => ?_, hK _ ?_⟩; (focus (first | (go_at_call 93; (with_reducible refine Calls.mono (Hid.out (HPR _)) ?_); rintro e w' ⟨rfl, rfl⟩; exact ⟨rfl, hW⟩) | exact rfl | (obtain ⟨c2, c7, p0, ce, hpq, hmq⟩ := hW.out; go_simp; rfl))); clear hK K))
  refine WQ.nil ?_
  intro W hW
  obtain ⟨c2, c7, p0, ce, hpq, hmq⟩ := hW.out
  clear hall HCL
  have HP := Lib.hid hpq
  have HM := Lib.hid hmq
  clear hpq hmq hW HSD
  go_upto_region 1 with fail
  obtain ⟨W1, hW1⟩ : ∃ W1, W1 = W := ⟨_, rfl⟩
  rw [← hW1] at c2 c7 p0 ce HP HM ⊢
  clear hW1 W
  have HSD := Lib.hid (show W1.drew.cell? ⟨b, t * 18 + 2, none⟩ = some (.string r.op.key) ∧ W1.drew.cell? ⟨b, t * 18 + 7, none⟩ = some (.int .i64 r.k) ∧ W1.drew.cell? ⟨g, 0, none⟩ = some ((.slice (some ⟨cb, 0, none⟩) 71 cc)) ∧ W1.drew.cell? ⟨cb, m, none⟩ = some (.int .i64 z) ∧ PJ W1.drew κ g b cap vt t s r (.slice (some ⟨cb, 0, none⟩) 71 cc) vl ∧ Mv κ κ w W1.drew from ⟨c2, c7, p0, ce, (HP.out).below (below_drew _ _), (HM.out).thn (below_drew _ _)⟩)
  have HCL := (⟨HSD.out⟩ : HoldsC (fun W => W.cell? ⟨b, t * 18 + 2, none⟩ = some (.string r.op.key) ∧ W.cell? ⟨b, t * 18 + 7, none⟩ = some (.int .i64 r.k) ∧ W.cell? ⟨g, 0, none⟩ = some ((.slice (some ⟨cb, 0, none⟩) 71 cc)) ∧ W.cell? ⟨cb, m, none⟩ = some (.int .i64 z) ∧ PJ W κ g b cap vt t s r (.slice (some ⟨cb, 0, none⟩) 71 cc) vl ∧ Mv κ κ w W) _)
  have hall : ∀ p : Prop, (∀ W, HoldsC (fun W => W.cell? ⟨b, t * 18 + 2, none⟩ = some (.string r.op.key) ∧ W.cell? ⟨b, t * 18 + 7, none⟩ = some (.int .i64 r.k) ∧ W.cell? ⟨g, 0, none⟩ = some ((.slice (some ⟨cb, 0, none⟩) 71 cc)) ∧ W.cell? ⟨cb, m, none⟩ = some (.int .i64 z) ∧ PJ W κ g b cap vt t s r (.slice (some ⟨cb, 0, none⟩) 71 cc) vl ∧ Mv κ κ w W) W → p) ↔ p := fun p => ⟨fun h => h _ HCL, fun h _ _ => h⟩
  refine wp_region_wq (C := HoldsC (fun W => W.cell? ⟨b, t * 18 + 2, none⟩ = some (.string r.op.key) ∧ W.cell? ⟨b, t * 18 + 7, none⟩ = some (.int .i64 r.k) ∧ W.cell? ⟨g, 0, none⟩ = some ((.slice (some ⟨cb, 0, none⟩) 71 cc)) ∧ W.cell? ⟨cb, m, none⟩ = some (.int .i64 z) ∧ PJ W κ g b cap vt t s r (.slice (some ⟨cb, 0, none⟩) 71 cc) vl ∧ Mv κ κ w W)) (by kernel_rfl) (by kernel_rfl) HCL ?_
  repeat (refine WQ.step (fun K hK => ?_); go_simp; first | (refine hK _ ?_; clear hK K) | (apply Exists.intro; refine ⟨fun W hW => ?_, hK _ ?_⟩; (focus (first | (go_at_call 94; (with_reducible refine Calls.mono (Hid.out (HKC _)) ?_); rintro e w' ⟨rfl, rfl⟩; exact ⟨rfl, hW⟩) | exact rfl | (obtain ⟨c2, c7, p0, ce, hpq, hmq⟩ := hW.out; go_simp; rfl))); clear hK K))
  refine WQ.nil ?_
  intro W hW
  obtain ⟨c2, c7, p0, ce, hpq, hmq⟩ := hW.out
  clear hall HCL
  have HP := Lib.hid hpq
  have HM := Lib.hid hmq
  clear hpq hmq hW HSD
  clear c2 c7 p0 ce
  go_wp2_with fail
  refine (HU _).out.mono ?_
  rintro e X ⟨rfl, hb⟩
  have HM2 := Lib.hid (HM.out.thn (hb.mono HM.out.size))
  have HP2 := Lib.hid (HP.out.below hb)
  clear hb HP HM
  have c1 : X.cell? ⟨b, t * 18 + 1, none⟩ = some (.int .i64 r.op.kind) := HP2.out.jc 1 rfl
  have c2 : X.cell? ⟨b, t * 18 + 2, none⟩ = some (.string r.op.key) := HP2.out.jc 2 rfl
  have c7 : X.cell? ⟨b, t * 18 + 7, none⟩ = some (.int .i64 r.k) := HP2.out.jc 7 rfl
  have f7 : X.frozen? ⟨b, t * 18 + 7, none⟩ = false := HP2.out.jf _
  have HF := fun c => Lib.hid (iFinish_any X κ g b cap vt t s r (.slice (some ⟨cb, 0, none⟩) 71 cc) vl HP2.out hlen c)
  by_cases h0 : z = 0
  · have d0 : (z == 0) = true := by rw [beq_iff_eq]; exact h0
    replace HQ := Lib.hid (HQ.out.trans (if_pos h0))
    clear h0
    have HC := Lib.hid (iProbedFree_any X κ g b cap vt t s r (.slice (some ⟨cb, 0, none⟩) 71 cc) vl HP2.out hlen)
    go_wp2_with fail
    refine (HC.out).mono ?_
    rintro e X1 ⟨rfl, κ1, vc1, vl1, hp, hm⟩
    go_wp2_with fail
    go_end0
    rw [HQ.out]
    exact ⟨rfl, κ1, vc1, vl1, hp, HM2.out.trans hm⟩
  · have d0 : (z == 0) = false := by rw [beq_eq_false_iff_ne]; exact h0
    replace HQ := Lib.hid (HQ.out.trans (if_neg h0))
    clear h0
    by_cases h1 : tk = r.op.key
    · have d1 : (tk.toList == r.op.key.toList) = true := by rw [h1]; exact txt_self _
      replace HQ := Lib.hid (HQ.out.trans (if_pos h1))
      clear h1
      have HC := Lib.hid (iProbedKey_any X κ g b cap vt t s r (.slice (some ⟨cb, 0, none⟩) 71 cc) vl HP2.out hlen pv kd)
      go_wp2_with fail
      refine (HC.out).mono ?_
      rintro e X1 ⟨rfl, κ1, vc1, vl1, hp, hm⟩
      go_wp2_with fail
      go_end0
      rw [HQ.out]
      exact ⟨rfl, κ1, vc1, vl1, hp, HM2.out.trans hm⟩
    · have d1 : (tk.toList == r.op.key.toList) = false := txt_ne h1
      replace HQ := Lib.hid (HQ.out.trans (if_neg h1))
      clear h1
      by_cases h2 : r.k + 1 < 4
      · have d2 : (decide (r.k < 3)) = true := decide_eq_true (by omega)
        replace HQ := Lib.hid (HQ.out.trans (if_pos h2))
        clear h2
        have h5 := HP2.out.fld 7 (by decide) (r' := { r with k := r.k + 1 }) (.int .i64 (r.k + 1)) rfl rfl
        have HF1 := Lib.hid h5.1
        have HG1 := Lib.hid (HM2.out.trans h5.2)
        clear h5 HP2
        go_wp2_with fail
        go_end0
        rw [HQ.out]
        exact ⟨rfl, κ, _, vl, HF1.out, HG1.out⟩
      · have d2 : (decide (r.k < 3)) = false := decide_eq_false (by omega)
        replace HQ := Lib.hid (HQ.out.trans (if_neg h2))
        clear h2
        by_cases h3 : r.op.kind = 1
        · have d3 : (r.op.kind == 1) = true := by rw [beq_iff_eq]; exact h3
          replace HQ := Lib.hid (HQ.out.trans (if_pos h3))
          clear h3
          go_wp2_with fail
          refine ((HF 3).out).mono ?_
          rintro e X1 ⟨rfl, κ1, vc1, vl1, hp, hm⟩
          go_wp2_with fail
          go_end0
          rw [HQ.out]
          exact ⟨rfl, κ1, vc1, vl1, hp, HM2.out.trans hm⟩
        · have d3 : (r.op.kind == 1) = false := by rw [beq_eq_false_iff_ne]; exact h3
          replace HQ := Lib.hid (HQ.out.trans (if_neg h3))
          clear h3
          go_wp2_with fail
          refine ((HF 2).out).mono ?_
          rintro e X1 ⟨rfl, κ1, vc1, vl1, hp, hm⟩
          go_wp2_with fail
          go_end0
          rw [HQ.out]
          exact ⟨rfl, κ1, vc1, vl1, hp, HM2.out.trans hm⟩
end Go.Proofs.YtnlepnfdgdbkoaaGreatDoor
