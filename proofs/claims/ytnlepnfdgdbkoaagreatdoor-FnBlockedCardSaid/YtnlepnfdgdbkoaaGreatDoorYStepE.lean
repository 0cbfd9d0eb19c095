/-
  Texts of this seat, laid together.
-/
import Derived.Test.YtnlepnfdgdbkoaaGreatDoorYMd
import Derived.Test.YtnlepnfdgdbkoaaGreatDoorYZg
import Derived.Test.YtnlepnfdgdbkoaaGreatDoorYZa
import Derived.Test.YtnlepnfdgdbkoaaGreatDoorYZb
namespace Go.Proofs.YtnlepnfdgdbkoaaGreatDoor
open Go.RowKit M
set_option linter.unusedVariables false
set_option linter.unusedSimpArgs false
set_option maxRecDepth 100000 in
set_option maxHeartbeats 1600000 in
theorem iWaitForBuf_any (w : World) (κ : Nat → Nat) (g b cap : Nat) (vt : Value) (t : Nat) (s : S) (r : J) (vc vl : Value) (h : PJ w κ g b cap vt t s r vc vl) (hok : okC s.cells = true) (he : 0 ≤ r.e ∧ r.e ≤ 281474976710655) :
    Calls Tryz.prog 89 #[.pointer (some ⟨g, 0, none⟩), .int .i64 (t : Int), .pointer (some ⟨b, t * 18, none⟩)] w (PX w κ g b cap vt t (s, if cellV' s (inCell r) = 0 then { r with pc := 14, k := 0 } else r)) := by
  have hl := okC_len hok
  obtain ⟨cb, cc, rfl⟩ := h.vcs hl
  have ht4 : (t : Int) < 4 := by have := h.tl; omega
  have p0 : w.cell? ⟨g, 0, none⟩ = some (.slice (some ⟨cb, 0, none⟩) 71 cc) := h.blk.get 0
  have c10 : w.cell? ⟨b, t * 18 + 10, none⟩ = some (.int .i64 r.e) := h.jc 10 rfl
  have HP := Lib.hid h
  have HM := Lib.hid (Mv.refl κ w)
  have HBF := fun W => Lib.hid (iBufOf_any W r.e he.1 he.2)
  obtain ⟨m, hm, hm71⟩ : ∃ m : Nat, inCell r = (m : Int) ∧ m < 71 := by unfold inCell; exact ⟨(1 + r.e % 2).toNat, by omega, by omega⟩
  have hmi : (m : Int) < 71 := by omega
  have HI := fun W => Lib.hid (iIn_any (r.e % 2) W)
  rw [inV_yes (by omega), show 1 + r.e % 2 = inCell r from rfl, hm] at HI
  have ce : w.cell? ⟨cb, m, none⟩ = some (.int .i64 (s.cells.getD m 0)) := h.cc hl m hm71
  obtain ⟨z, hz⟩ : ∃ z, s.cells.getD m 0 = z := ⟨_, rfl⟩
  rw [hz] at ce
  obtain ⟨p, hp⟩ : ∃ p : S × J, p = (s, if cellV' s (inCell r) = 0 then { r with pc := 14, k := 0 } else r) := ⟨_, rfl⟩
  rw [← hp]
  have HQ := Lib.hid hp
  clear hp
  have HR := Lib.hid (show cellV' s (inCell r) = z by unfold cellV'; rw [hm, Int.toNat_natCast]; exact hz)
  clear hz hm h
  go_enter Tryz.func89, Tryz.ntmps89
  go_wp2_with fail
  have HSD := Lib.hid (show w.drew.cell? ⟨g, 0, none⟩ = some ((.slice (some ⟨cb, 0, none⟩) 71 cc)) ∧ w.drew.cell? ⟨cb, m, none⟩ = some (.int .i64 z) ∧ w.drew.cell? ⟨b, t * 18 + 10, none⟩ = some (.int .i64 r.e) ∧ PJ w.drew κ g b cap vt t s r (.slice (some ⟨cb, 0, none⟩) 71 cc) vl ∧ Mv κ κ w w.drew from ⟨p0, ce, c10, (HP.out).below (below_drew _ _), (HM.out).thn (below_drew _ _)⟩)
  have HCL := (⟨HSD.out⟩ : HoldsC (fun W => W.cell? ⟨g, 0, none⟩ = some ((.slice (some ⟨cb, 0, none⟩) 71 cc)) ∧ W.cell? ⟨cb, m, none⟩ = some (.int .i64 z) ∧ W.cell? ⟨b, t * 18 + 10, none⟩ = some (.int .i64 r.e) ∧ PJ W κ g b cap vt t s r (.slice (some ⟨cb, 0, none⟩) 71 cc) vl ∧ Mv κ κ w W) _)
  have hall : ∀ p : Prop, (∀ W, HoldsC (fun W => W.cell? ⟨g, 0, none⟩ = some ((.slice (some ⟨cb, 0, none⟩) 71 cc)) ∧ W.cell? ⟨cb, m, none⟩ = some (.int .i64 z) ∧ W.cell? ⟨b, t * 18 + 10, none⟩ = some (.int .i64 r.e) ∧ PJ W κ g b cap vt t s r (.slice (some ⟨cb, 0, none⟩) 71 cc) vl ∧ Mv κ κ w W) W → p) ↔ p := fun p => ⟨fun h => h _ HCL, fun h _ _ => h⟩
  refine wp_region_wq (C := HoldsC (fun W => W.cell? ⟨g, 0, none⟩ = some ((.slice (some ⟨cb, 0, none⟩) 71 cc)) ∧ W.cell? ⟨cb, m, none⟩ = some (.int .i64 z) ∧ W.cell? ⟨b, t * 18 + 10, none⟩ = some (.int .i64 r.e) ∧ PJ W κ g b cap vt t s r (.slice (some ⟨cb, 0, none⟩) 71 cc) vl ∧ Mv κ κ w W)) (by kernel_rfl) (by kernel_rfl) HCL ?_
  repeat (refine WQ.step (fun K hK => ?_); go_simp; first | (refine hK _ ?_; clear hK K) | (apply Exists.intro; refine ⟨fun W hW => ?_, hK _ ?_⟩; (focus (first | (go_at_call 103; (with_reducible refine Calls.mono (Hid.out (HBF _)) ?_); rintro e w' ⟨rfl, rfl⟩; exact ⟨rfl, hW⟩) | (go_at_call 102; (with_reducible refine Calls.mono (Hid.out (HI _)) ?_); rintro e w' ⟨rfl, rfl⟩; exact ⟨rfl, hW⟩) | exact rfl | (obtain ⟨p0, ce, c10, hpq, hmq⟩ := hW.out; go_simp; rfl))); clear hK K))
  refine WQ.nil ?_
  intro W hW
  obtain ⟨p0, ce, c10, hpq, hmq⟩ := hW.out
  clear hall HCL
  have HP := Lib.hid hpq
  have HM := Lib.hid hmq
  clear hpq hmq hW HSD
  by_cases hz : z = 0
  · have d1 : (z == 0) = true := by rw [beq_iff_eq]; exact hz
    rw [HR.out, if_pos hz] at HQ
    clear hz
    have c7 : W.cell? ⟨b, t * 18 + 7, none⟩ = some (.int .i64 r.k) := HP.out.jc 7 rfl
    have f7 : W.frozen? ⟨b, t * 18 + 7, none⟩ = false := HP.out.jf _
    have c6 : W.cell? ⟨b, t * 18 + 6, none⟩ = some (.int .i64 r.pc) := HP.out.jc 6 rfl
    have f6 : W.frozen? ⟨b, t * 18 + 6, none⟩ = false := HP.out.jf _
    have h1 := HP.out.fld 7 (by decide) (r' := { r with k := 0 }) (.int .i64 (0)) rfl rfl
    have h2 := h1.1.fld 6 (by decide) (r' := { r with pc := 14, k := 0 }) (.int .i64 (14)) rfl rfl
    have HF := Lib.hid h2.1
    have HG := Lib.hid ((HM.out.trans h1.2).trans h2.2)
    clear HP HM h1 h2
    go_wp2_with fail
    go_end0
    rw [HQ.out]
    exact ⟨rfl, κ, _, vl, HF.out, HG.out⟩
  · have d1 : (z == 0) = false := by rw [beq_eq_false_iff_ne]; exact hz
    rw [HR.out, if_neg hz] at HQ
    clear hz
    have HF := Lib.hid HP.out
    have HG := Lib.hid HM.out
    go_wp2_with fail
    go_end0
    rw [HQ.out]
    exact ⟨rfl, κ, _, vl, HF.out, HG.out⟩
set_option maxRecDepth 100000 in
set_option maxHeartbeats 1600000 in
theorem iLookAt_any (w : World) (κ : Nat → Nat) (g b cap : Nat) (vt : Value) (t : Nat) (s : S) (r : J) (vc vl : Value) (h : PJ w κ g b cap vt t s r vc vl) (hok : okC s.cells = true) (he : 0 ≤ r.e ∧ r.e ≤ 281474976710655) (hs : 0 ≤ r.slot ∧ r.slot ≤ 3) :
    Calls Tryz.prog 82 #[.pointer (some ⟨g, 0, none⟩), .int .i64 (t : Int), .pointer (some ⟨b, t * 18, none⟩)] w (PX w κ g b cap vt t (s, { r with old := cellV' s (jobCell r 3), pc := if r.stamp < ungA (cellV' s (jobCell r 3)) then 9 else 7 })) := by
  have hl := okC_len hok
  obtain ⟨cb, cc, rfl⟩ := h.vcs hl
  have ht4 : (t : Int) < 4 := by have := h.tl; omega
  have p0 : w.cell? ⟨g, 0, none⟩ = some (.slice (some ⟨cb, 0, none⟩) 71 cc) := h.blk.get 0
  have c10 : w.cell? ⟨b, t * 18 + 10, none⟩ = some (.int .i64 r.e) := h.jc 10 rfl
  have c8 : w.cell? ⟨b, t * 18 + 8, none⟩ = some (.int .i64 r.slot) := h.jc 8 rfl
  have c12 : w.cell? ⟨b, t * 18 + 12, none⟩ = some (.int .i64 r.old) := h.jc 12 rfl
  have HP := Lib.hid h
  have HM := Lib.hid (Mv.refl κ w)
  have HBF := fun W => Lib.hid (iBufOf_any W r.e he.1 he.2)
  obtain ⟨m, hm, hm71⟩ : ∃ m : Nat, jobCell r 3 = (m : Int) ∧ m < 71 := jobCell_nat hs 3 (by decide)
  have hmi : (m : Int) < 71 := by omega
  have HI := fun W => Lib.hid (iGauge_any (r.e % 2) r.slot W)
  rw [cellV_job hs, hm] at HI
  have ce : w.cell? ⟨cb, m, none⟩ = some (.int .i64 (s.cells.getD m 0)) := h.cc hl m hm71
  obtain ⟨z, hz⟩ : ∃ z, s.cells.getD m 0 = z := ⟨_, rfl⟩
  rw [hz] at ce
  obtain ⟨z0, z1⟩ := okC_at hok m hm71
  rw [hz] at z0 z1
  obtain ⟨p, hp⟩ : ∃ p : S × J, p = (s, { r with old := cellV' s (jobCell r 3), pc := if r.stamp < ungA (cellV' s (jobCell r 3)) then 9 else 7 }) := ⟨_, rfl⟩
  rw [← hp]
  have HQ := Lib.hid hp
  clear hp
  have HR := Lib.hid (show cellV' s (jobCell r 3) = z by unfold cellV'; rw [hm, Int.toNat_natCast]; exact hz)
  have HUG := fun W => Lib.hid (iUnpackGauge_same W z (by omega) (by omega))
  have HZ := Lib.hid hz
  clear hz hm h
  have HL := Lib.hid hl
  clear hl
  go_enter Tryz.func82, Tryz.ntmps82
  go_wp2_with fail
  clear p0 ce c10 c8 c12
  replace HP := Lib.hid (HP.out.below (below_drew _ _))
  replace HM := Lib.hid (HM.out.thn (below_drew _ _))
  refine wp_region_held_drew (S := fun X : World => X.cell? ⟨g, 0, none⟩ = some ((.slice (some ⟨cb, 0, none⟩) 71 cc)) ∧ X.cell? ⟨cb, m, none⟩ = some (.int .i64 z) ∧ X.cell? ⟨b, t * 18 + 10, none⟩ = some (.int .i64 r.e) ∧ X.cell? ⟨b, t * 18 + 8, none⟩ = some (.int .i64 r.slot)) (by kernel_rfl) ⟨HP.out.blk.get 0, (HZ.out ▸ HP.out.cc HL.out m hm71), HP.out.jc 10 rfl, HP.out.jc 8 rfl⟩ (fun hHeld => ?_)
  clear hHeld
  generalize w.drew = X0 at *
  refine' wpAnyH_take (i := 0) (v := .pointer (some ⟨b, t * 18, none⟩)) rfl (by kernel_rfl) (by kernel_rfl) (by kernel_rfl) (fun _ _ _ h => h) (Or.inl ⟨by rfl, fun W h => by go_simp⟩) ⟨HP.out.blk.get 0, (HZ.out ▸ HP.out.cc HL.out m hm71), HP.out.jc 10 rfl, HP.out.jc 8 rfl⟩ ?_
  try simp only [Act.put, List.getElem_toArray, List.getElem_cons_succ, List.getElem_cons_zero, List.setIfInBounds_toArray, List.set_cons_zero, List.set_cons_succ]
  refine' wpAnyH_take (i := 1) (v := .pointer (some ⟨g, 0, none⟩)) rfl (by kernel_rfl) (by kernel_rfl) (by kernel_rfl) (fun _ _ _ h => h) (Or.inl ⟨by rfl, fun W h => by go_simp⟩) ⟨HP.out.blk.get 0, (HZ.out ▸ HP.out.cc HL.out m hm71), HP.out.jc 10 rfl, HP.out.jc 8 rfl⟩ ?_
  try simp only [Act.put, List.getElem_toArray, List.getElem_cons_succ, List.getElem_cons_zero, List.setIfInBounds_toArray, List.set_cons_zero, List.set_cons_succ]
  refine' wpAnyH_take (i := 2) (v := .pointer (some ⟨g, 0, none⟩)) rfl (by kernel_rfl) (by kernel_rfl) (by kernel_rfl) (fun _ _ _ h => h) (Or.inl ⟨by rfl, fun W h => by go_simp⟩) ⟨HP.out.blk.get 0, (HZ.out ▸ HP.out.cc HL.out m hm71), HP.out.jc 10 rfl, HP.out.jc 8 rfl⟩ ?_
  try simp only [Act.put, List.getElem_toArray, List.getElem_cons_succ, List.getElem_cons_zero, List.setIfInBounds_toArray, List.set_cons_zero, List.set_cons_succ]
  refine' wpAnyH_take (i := 3) (v := .pointer (some ⟨g, 0, none⟩)) rfl (by kernel_rfl) (by kernel_rfl) (by kernel_rfl) (fun _ _ _ h => h) (Or.inl ⟨by rfl, fun W h => by go_simp⟩) ⟨HP.out.blk.get 0, (HZ.out ▸ HP.out.cc HL.out m hm71), HP.out.jc 10 rfl, HP.out.jc 8 rfl⟩ ?_
  try simp only [Act.put, List.getElem_toArray, List.getElem_cons_succ, List.getElem_cons_zero, List.setIfInBounds_toArray, List.set_cons_zero, List.set_cons_succ]
  refine' wpAnyH_take (i := 4) (v := (.slice (some ⟨cb, 0, none⟩) 71 cc)) rfl (by kernel_rfl) (by kernel_rfl) (by kernel_rfl) (fun _ _ _ h => h) (Or.inl ⟨by rfl, fun W h => by have q : W.cell? ⟨g, 0, none⟩ = some ((.slice (some ⟨cb, 0, none⟩) 71 cc)) := h.1; go_simp⟩) ⟨HP.out.blk.get 0, (HZ.out ▸ HP.out.cc HL.out m hm71), HP.out.jc 10 rfl, HP.out.jc 8 rfl⟩ ?_
  try simp only [Act.put, List.getElem_toArray, List.getElem_cons_succ, List.getElem_cons_zero, List.setIfInBounds_toArray, List.set_cons_zero, List.set_cons_succ]
  refine' wpAnyH_take (i := 5) (v := .pointer (some ⟨b, t * 18, none⟩)) rfl (by kernel_rfl) (by kernel_rfl) (by kernel_rfl) (fun _ _ _ h => h) (Or.inl ⟨by rfl, fun W h => by go_simp⟩) ⟨HP.out.blk.get 0, (HZ.out ▸ HP.out.cc HL.out m hm71), HP.out.jc 10 rfl, HP.out.jc 8 rfl⟩ ?_
  try simp only [Act.put, List.getElem_toArray, List.getElem_cons_succ, List.getElem_cons_zero, List.setIfInBounds_toArray, List.set_cons_zero, List.set_cons_succ]
  refine' wpAnyH_take (i := 6) (v := .pointer (some ⟨b, t * 18, none⟩)) rfl (by kernel_rfl) (by kernel_rfl) (by kernel_rfl) (fun _ _ _ h => h) (Or.inl ⟨by rfl, fun W h => by go_simp⟩) ⟨HP.out.blk.get 0, (HZ.out ▸ HP.out.cc HL.out m hm71), HP.out.jc 10 rfl, HP.out.jc 8 rfl⟩ ?_
  try simp only [Act.put, List.getElem_toArray, List.getElem_cons_succ, List.getElem_cons_zero, List.setIfInBounds_toArray, List.set_cons_zero, List.set_cons_succ]
  refine' wpAnyH_take (i := 7) (v := .pointer (some ⟨b, t * 18 + 10, none⟩)) rfl (by kernel_rfl) (by kernel_rfl) (by kernel_rfl) (fun _ _ _ h => h) (Or.inl ⟨by rfl, fun W h => by go_simp⟩) ⟨HP.out.blk.get 0, (HZ.out ▸ HP.out.cc HL.out m hm71), HP.out.jc 10 rfl, HP.out.jc 8 rfl⟩ ?_
  try simp only [Act.put, List.getElem_toArray, List.getElem_cons_succ, List.getElem_cons_zero, List.setIfInBounds_toArray, List.set_cons_zero, List.set_cons_succ]
  refine' wpAnyH_take (i := 8) (v := .int .i64 r.e) rfl (by kernel_rfl) (by kernel_rfl) (by kernel_rfl) (fun _ _ _ h => h) (Or.inl ⟨by rfl, fun W h => by have q : W.cell? ⟨b, t * 18 + 10, none⟩ = some (.int .i64 r.e) := h.2.2.1; go_simp⟩) ⟨HP.out.blk.get 0, (HZ.out ▸ HP.out.cc HL.out m hm71), HP.out.jc 10 rfl, HP.out.jc 8 rfl⟩ ?_
  try simp only [Act.put, List.getElem_toArray, List.getElem_cons_succ, List.getElem_cons_zero, List.setIfInBounds_toArray, List.set_cons_zero, List.set_cons_succ]
  refine' wpAnyH_take (i := 10) (v := .pointer (some ⟨b, t * 18, none⟩)) rfl (by kernel_rfl) (by kernel_rfl) (by kernel_rfl) (fun _ _ _ h => h) (Or.inl ⟨by rfl, fun W h => by go_simp⟩) ⟨HP.out.blk.get 0, (HZ.out ▸ HP.out.cc HL.out m hm71), HP.out.jc 10 rfl, HP.out.jc 8 rfl⟩ ?_
  try simp only [Act.put, List.getElem_toArray, List.getElem_cons_succ, List.getElem_cons_zero, List.setIfInBounds_toArray, List.set_cons_zero, List.set_cons_succ]
  refine' wpAnyH_take (i := 11) (v := .pointer (some ⟨b, t * 18, none⟩)) rfl (by kernel_rfl) (by kernel_rfl) (by kernel_rfl) (fun _ _ _ h => h) (Or.inl ⟨by rfl, fun W h => by go_simp⟩) ⟨HP.out.blk.get 0, (HZ.out ▸ HP.out.cc HL.out m hm71), HP.out.jc 10 rfl, HP.out.jc 8 rfl⟩ ?_
  try simp only [Act.put, List.getElem_toArray, List.getElem_cons_succ, List.getElem_cons_zero, List.setIfInBounds_toArray, List.set_cons_zero, List.set_cons_succ]
  refine' wpAnyH_take (i := 12) (v := .pointer (some ⟨b, t * 18 + 8, none⟩)) rfl (by kernel_rfl) (by kernel_rfl) (by kernel_rfl) (fun _ _ _ h => h) (Or.inl ⟨by rfl, fun W h => by go_simp⟩) ⟨HP.out.blk.get 0, (HZ.out ▸ HP.out.cc HL.out m hm71), HP.out.jc 10 rfl, HP.out.jc 8 rfl⟩ ?_
  try simp only [Act.put, List.getElem_toArray, List.getElem_cons_succ, List.getElem_cons_zero, List.setIfInBounds_toArray, List.set_cons_zero, List.set_cons_succ]
  refine' wpAnyH_take (i := 13) (v := .int .i64 r.slot) rfl (by kernel_rfl) (by kernel_rfl) (by kernel_rfl) (fun _ _ _ h => h) (Or.inl ⟨by rfl, fun W h => by have q : W.cell? ⟨b, t * 18 + 8, none⟩ = some (.int .i64 r.slot) := h.2.2.2; go_simp⟩) ⟨HP.out.blk.get 0, (HZ.out ▸ HP.out.cc HL.out m hm71), HP.out.jc 10 rfl, HP.out.jc 8 rfl⟩ ?_
  try simp only [Act.put, List.getElem_toArray, List.getElem_cons_succ, List.getElem_cons_zero, List.setIfInBounds_toArray, List.set_cons_zero, List.set_cons_succ]
  refine wpAnyH_ready (rs := [9]) (by kernel_rfl) (by simp) ?_
  refine AllReadyH.cons rfl (fun K hK => ?_) AllReadyH.nil
  go_simp
  refine (HBF _).out.mono ?_
  rintro e W9 ⟨rfl, rfl⟩
  refine hK.out _ _ ⟨HP.out.blk.get 0, (HZ.out ▸ HP.out.cc HL.out m hm71), HP.out.jc 10 rfl, HP.out.jc 8 rfl⟩ (fun hHeld => ?_)
  clear hK K hHeld
  try simp only [Act.put, List.getElem_toArray, List.getElem_cons_succ, List.getElem_cons_zero, List.setIfInBounds_toArray, List.set_cons_zero, List.set_cons_succ]
  refine wpAnyH_ready (rs := [14]) (by kernel_rfl) (by simp) ?_
  refine AllReadyH.cons rfl (fun K hK => ?_) AllReadyH.nil
  go_simp
  refine (HI _).out.mono ?_
  rintro e W9 ⟨rfl, rfl⟩
  refine hK.out _ _ ⟨HP.out.blk.get 0, (HZ.out ▸ HP.out.cc HL.out m hm71), HP.out.jc 10 rfl, HP.out.jc 8 rfl⟩ (fun hHeld => ?_)
  clear hK K hHeld
  try simp only [Act.put, List.getElem_toArray, List.getElem_cons_succ, List.getElem_cons_zero, List.setIfInBounds_toArray, List.set_cons_zero, List.set_cons_succ]
  refine' wpAnyH_take (i := 15) (v := .pointer (some ⟨cb, m, none⟩)) rfl (by kernel_rfl) (by kernel_rfl) (by kernel_rfl) (fun _ _ _ h => h) (Or.inl ⟨by rfl, fun W h => by go_simp⟩) ⟨HP.out.blk.get 0, (HZ.out ▸ HP.out.cc HL.out m hm71), HP.out.jc 10 rfl, HP.out.jc 8 rfl⟩ ?_
  try simp only [Act.put, List.getElem_toArray, List.getElem_cons_succ, List.getElem_cons_zero, List.setIfInBounds_toArray, List.set_cons_zero, List.set_cons_succ]
  refine' wpAnyH_take (i := 16) (v := .int .i64 z) rfl (by kernel_rfl) (by kernel_rfl) (by kernel_rfl) (fun _ _ _ h => h) (Or.inl ⟨by rfl, fun W h => by have q : W.cell? ⟨cb, m, none⟩ = some (.int .i64 z) := h.2.1; go_simp⟩) ⟨HP.out.blk.get 0, (HZ.out ▸ HP.out.cc HL.out m hm71), HP.out.jc 10 rfl, HP.out.jc 8 rfl⟩ ?_
  try simp only [Act.put, List.getElem_toArray, List.getElem_cons_succ, List.getElem_cons_zero, List.setIfInBounds_toArray, List.set_cons_zero, List.set_cons_succ]
  refine' wpAnyH_take (i := 17) (v := .pointer (some ⟨b, t * 18, none⟩)) rfl (by kernel_rfl) (by kernel_rfl) (by kernel_rfl) (fun _ _ _ h => h) (Or.inl ⟨by rfl, fun W h => by go_simp⟩) ⟨HP.out.blk.get 0, (HZ.out ▸ HP.out.cc HL.out m hm71), HP.out.jc 10 rfl, HP.out.jc 8 rfl⟩ ?_
  try simp only [Act.put, List.getElem_toArray, List.getElem_cons_succ, List.getElem_cons_zero, List.setIfInBounds_toArray, List.set_cons_zero, List.set_cons_succ]
  refine' wpAnyH_take (i := 18) (v := .pointer (some ⟨b, t * 18 + 12, none⟩)) rfl (by kernel_rfl) (by kernel_rfl) (by kernel_rfl) (fun _ _ _ h => h) (Or.inl ⟨by rfl, fun W h => by go_simp⟩) ⟨HP.out.blk.get 0, (HZ.out ▸ HP.out.cc HL.out m hm71), HP.out.jc 10 rfl, HP.out.jc 8 rfl⟩ ?_
  try simp only [Act.put, List.getElem_toArray, List.getElem_cons_succ, List.getElem_cons_zero, List.setIfInBounds_toArray, List.set_cons_zero, List.set_cons_succ]
  have c12 : X0.cell? ⟨b, t * 18 + 12, none⟩ = some (.int .i64 r.old) := HP.out.jc 12 rfl
  have f12 : X0.frozen? ⟨b, t * 18 + 12, none⟩ = false := HP.out.jf _
  refine wpAnyH_ready (rs := [19]) (by kernel_rfl) (by simp) ?_
  refine AllReadyH.cons rfl (fun K hK => ?_) AllReadyH.nil
  go_simp
  have h1 := HP.out.fld 12 (by decide) (r' := { r with old := z }) (.int .i64 z) rfl rfl
  replace HP := Lib.hid h1.1
  replace HM := Lib.hid (HM.out.trans h1.2)
  refine hK.out _ _ ⟨HP.out.blk.get 0, (HZ.out ▸ HP.out.cc HL.out m hm71), HP.out.jc 10 rfl, HP.out.jc 8 rfl⟩ (fun hHeld => ?_)
  clear hK K hHeld h1 c12 f12
  try simp only [Act.put, List.getElem_toArray, List.getElem_cons_succ, List.getElem_cons_zero, List.setIfInBounds_toArray, List.set_cons_zero, List.set_cons_succ]
  refine wpAnyH_done (by kernel_rfl) ?_ _
  go_upto_region 1 with fail
  refine wp_gen (fun X => PJ X κ g b cap vt t s { r with old := z } (.slice (some ⟨cb, 0, none⟩) 71 cc) vl ∧ Mv κ κ w X) ⟨HP.out, HM.out⟩ ?_
  clear HP HM
  rintro X ⟨hp, hm⟩
  have c12 : X.cell? ⟨b, t * 18 + 12, none⟩ = some (.int .i64 z) := hp.jc 12 rfl
  have c11 : X.cell? ⟨b, t * 18 + 11, none⟩ = some (.int .i64 r.stamp) := hp.jc 11 rfl
  have HP := Lib.hid hp
  have HM := Lib.hid hm
  clear hp hm
  by_cases hlt : r.stamp < ungA z
  · have d1 : decide (r.stamp < ungA z) = true := decide_eq_true hlt
    rw [HR.out, if_pos hlt] at HQ
    clear hlt
    generalize ungA z = ya at *
    generalize ungV z = yv at *
    have c6 : X.cell? ⟨b, t * 18 + 6, none⟩ = some (.int .i64 ({ r with old := z } : J).pc) := HP.out.jc 6 rfl
    have f6 : X.frozen? ⟨b, t * 18 + 6, none⟩ = false := HP.out.jf _
    have h1 := HP.out.fld 6 (by decide) (r' := { r with old := z, pc := 9 }) (.int .i64 (9)) rfl rfl
    have HF := Lib.hid h1.1
    have HG := Lib.hid (HM.out.trans h1.2)
    clear HP HM h1
    go_wp2_with (first | (go_at_call 109; refine (HUG _).out.mono ?_; rintro e w' ⟨rfl, rfl⟩))
    go_end0
    rw [HQ.out]
    exact ⟨rfl, κ, _, vl, HF.out, HG.out⟩
  · have d1 : decide (r.stamp < ungA z) = false := decide_eq_false hlt
    rw [HR.out, if_neg hlt] at HQ
    clear hlt
    generalize ungA z = ya at *
    generalize ungV z = yv at *
    have c6 : X.cell? ⟨b, t * 18 + 6, none⟩ = some (.int .i64 ({ r with old := z } : J).pc) := HP.out.jc 6 rfl
    have f6 : X.frozen? ⟨b, t * 18 + 6, none⟩ = false := HP.out.jf _
    have h1 := HP.out.fld 6 (by decide) (r' := { r with old := z, pc := 7 }) (.int .i64 (7)) rfl rfl
    have HF := Lib.hid h1.1
    have HG := Lib.hid (HM.out.trans h1.2)
    clear HP HM h1
    go_wp2_with (first | (go_at_call 109; refine (HUG _).out.mono ?_; rintro e w' ⟨rfl, rfl⟩))
    go_end0
    rw [HQ.out]
    exact ⟨rfl, κ, _, vl, HF.out, HG.out⟩
set_option maxRecDepth 100000 in
set_option maxHeartbeats 1600000 in
theorem iStoreSample_any (w : World) (κ : Nat → Nat) (g b cap : Nat) (vt : Value) (t : Nat) (s : S) (r : J) (vc vl : Value) (h : PJ w κ g b cap vt t s r vc vl) (hok : okC s.cells = true) (he : 0 ≤ r.e ∧ r.e ≤ 281474976710655) (hs : 0 ≤ r.slot ∧ r.slot ≤ 3) (hk : 0 ≤ r.k ∧ r.k ≤ 2) (hv : 0 ≤ r.op.val ∧ r.op.val ≤ 65535) :
    Calls Tryz.prog 84 #[.pointer (some ⟨g, 0, none⟩), .int .i64 (t : Int), .pointer (some ⟨b, t * 18, none⟩)] w (PX w κ g b cap vt t (putV' s (jobCell r (5 + r.k)) (r.op.val + 1), { r with pc := 9 })) := by
  have hl := okC_len hok
  obtain ⟨cb, cc, rfl⟩ := h.vcs hl
  have ht4 : (t : Int) < 4 := by have := h.tl; omega
  have p0 : w.cell? ⟨g, 0, none⟩ = some (.slice (some ⟨cb, 0, none⟩) 71 cc) := h.blk.get 0
  have c10 : w.cell? ⟨b, t * 18 + 10, none⟩ = some (.int .i64 r.e) := h.jc 10 rfl
  have c8 : w.cell? ⟨b, t * 18 + 8, none⟩ = some (.int .i64 r.slot) := h.jc 8 rfl
  have c7 : w.cell? ⟨b, t * 18 + 7, none⟩ = some (.int .i64 r.k) := h.jc 7 rfl
  have c4 : w.cell? ⟨b, t * 18 + 4, none⟩ = some (.int .i64 r.op.val) := h.jc 4 rfl
  have HP := Lib.hid h
  have HM := Lib.hid (Mv.refl κ w)
  have HBF := fun W => Lib.hid (iBufOf_any W r.e he.1 he.2)
  obtain ⟨m, hm, hm71⟩ : ∃ m : Nat, jobCell r (5 + r.k) = (m : Int) ∧ m < 71 := jobCell_nat hs _ (by omega)
  have hmi : (m : Int) < 71 := by omega
  have HI := fun W => Lib.hid (iRing_any (r.e % 2) r.slot r.k W)
  rw [partV_yes (by omega), cellV_job hs, hm] at HI
  have ce : w.cell? ⟨cb, m, none⟩ = some (.int .i64 (s.cells.getD m 0)) := h.cc hl m hm71
  obtain ⟨z, hz⟩ : ∃ z, s.cells.getD m 0 = z := ⟨_, rfl⟩
  rw [hz] at ce
  have hw : IntKind.i64.wrap (r.op.val + 1) = r.op.val + 1 := by rw [IntKind.wrap_i64]; omega
  have HR := Lib.hid (show putV' s (jobCell r (5 + r.k)) (r.op.val + 1) = { s with cells := s.cells.set m (r.op.val + 1) } by unfold putV'; rw [hm, Int.toNat_natCast])
  rw [HR.out]
  have HL := Lib.hid hl
  clear hz hm h hl
  go_enter Tryz.func84, Tryz.ntmps84
  go_wp2_with fail
  have HSD := Lib.hid (show w.drew.cell? ⟨g, 0, none⟩ = some ((.slice (some ⟨cb, 0, none⟩) 71 cc)) ∧ w.drew.cell? ⟨cb, m, none⟩ = some (.int .i64 z) ∧ w.drew.cell? ⟨b, t * 18 + 10, none⟩ = some (.int .i64 r.e) ∧ w.drew.cell? ⟨b, t * 18 + 8, none⟩ = some (.int .i64 r.slot) ∧ w.drew.cell? ⟨b, t * 18 + 7, none⟩ = some (.int .i64 r.k) ∧ w.drew.cell? ⟨b, t * 18 + 4, none⟩ = some (.int .i64 r.op.val) ∧ PJ w.drew κ g b cap vt t s r (.slice (some ⟨cb, 0, none⟩) 71 cc) vl ∧ Mv κ κ w w.drew from ⟨p0, ce, c10, c8, c7, c4, HP.out.below (below_drew _ _), HM.out.thn (below_drew _ _)⟩)
  have HCL := (⟨HSD.out⟩ : HoldsC (fun W => W.cell? ⟨g, 0, none⟩ = some ((.slice (some ⟨cb, 0, none⟩) 71 cc)) ∧ W.cell? ⟨cb, m, none⟩ = some (.int .i64 z) ∧ W.cell? ⟨b, t * 18 + 10, none⟩ = some (.int .i64 r.e) ∧ W.cell? ⟨b, t * 18 + 8, none⟩ = some (.int .i64 r.slot) ∧ W.cell? ⟨b, t * 18 + 7, none⟩ = some (.int .i64 r.k) ∧ W.cell? ⟨b, t * 18 + 4, none⟩ = some (.int .i64 r.op.val) ∧ PJ W κ g b cap vt t s r (.slice (some ⟨cb, 0, none⟩) 71 cc) vl ∧ Mv κ κ w W) _)
  have hall : ∀ p : Prop, (∀ W, HoldsC (fun W => W.cell? ⟨g, 0, none⟩ = some ((.slice (some ⟨cb, 0, none⟩) 71 cc)) ∧ W.cell? ⟨cb, m, none⟩ = some (.int .i64 z) ∧ W.cell? ⟨b, t * 18 + 10, none⟩ = some (.int .i64 r.e) ∧ W.cell? ⟨b, t * 18 + 8, none⟩ = some (.int .i64 r.slot) ∧ W.cell? ⟨b, t * 18 + 7, none⟩ = some (.int .i64 r.k) ∧ W.cell? ⟨b, t * 18 + 4, none⟩ = some (.int .i64 r.op.val) ∧ PJ W κ g b cap vt t s r (.slice (some ⟨cb, 0, none⟩) 71 cc) vl ∧ Mv κ κ w W) W → p) ↔ p := fun p => ⟨fun h => h _ HCL, fun h _ _ => h⟩
  refine wp_region_tail_lit (C := HoldsC (fun W => W.cell? ⟨g, 0, none⟩ = some ((.slice (some ⟨cb, 0, none⟩) 71 cc)) ∧ W.cell? ⟨cb, m, none⟩ = some (.int .i64 z) ∧ W.cell? ⟨b, t * 18 + 10, none⟩ = some (.int .i64 r.e) ∧ W.cell? ⟨b, t * 18 + 8, none⟩ = some (.int .i64 r.slot) ∧ W.cell? ⟨b, t * 18 + 7, none⟩ = some (.int .i64 r.k) ∧ W.cell? ⟨b, t * 18 + 4, none⟩ = some (.int .i64 r.op.val) ∧ PJ W κ g b cap vt t s r (.slice (some ⟨cb, 0, none⟩) 71 cc) vl ∧ Mv κ κ w W)) (by kernel_rfl) (by kernel_rfl) rfl HCL ?_
  repeat (refine WQ.step (fun K hK => ?_); go_simp; first | (refine hK _ ?_; clear hK K) | (apply Exists.intro; refine ⟨fun W hW => ?_, hK _ ?_⟩; (focus (first | (go_at_call 103; (with_reducible refine Calls.mono (Hid.out (HBF _)) ?_); rintro e w' ⟨rfl, rfl⟩; exact ⟨rfl, hW⟩) | (go_at_call 111; (with_reducible refine Calls.mono (Hid.out (HI _)) ?_); rintro e w' ⟨rfl, rfl⟩; exact ⟨rfl, hW⟩) | exact rfl | (obtain ⟨p0, ce, c10, c8, c7, c4, hpq, hmq⟩ := hW.out; have fe := hpq.cf HL.out m; go_simp; rfl))); clear hK K))
  refine WQ.nil ?_
  intro W hW
  obtain ⟨p0, ce, c10, c8, c7, c4, hpq, hmq⟩ := hW.out; have fe := hpq.cf HL.out m
  refine ⟨rfl, ?_⟩
  clear hall HCL
  go_simp
  have HP := Lib.hid hpq
  have HM := Lib.hid hmq
  clear hpq hmq hW HSD
  go_upto_region 1 with fail
  have h1 := HP.out.cset HL.out m hm71 (r.op.val + 1)
  refine wp_gen (fun X => PJ X κ g b cap vt t { s with cells := s.cells.set m (r.op.val + 1) } r (.slice (some ⟨cb, 0, none⟩) 71 cc) vl ∧ Mv κ κ w X) ⟨h1.1, HM.out.trans h1.2⟩ ?_
  clear h1 HP HM p0 ce c10 c8 c7 c4 fe
  rintro X ⟨hp, hm⟩
  have HP := Lib.hid hp
  have HM := Lib.hid hm
  clear hp hm
  have c6 : X.cell? ⟨b, t * 18 + 6, none⟩ = some (.int .i64 r.pc) := HP.out.jc 6 rfl
  have f6 : X.frozen? ⟨b, t * 18 + 6, none⟩ = false := HP.out.jf _
  have h1 := HP.out.fld 6 (by decide) (r' := { r with pc := 9 }) (.int .i64 (9)) rfl rfl
  have HF := Lib.hid h1.1
  have HG := Lib.hid (HM.out.trans h1.2)
  clear HP HM h1
  go_wp2_with fail
  go_end0
  exact ⟨rfl, κ, _, vl, HF.out, HG.out⟩
end Go.Proofs.YtnlepnfdgdbkoaaGreatDoor
