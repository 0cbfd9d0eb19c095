/-
  Texts of this seat, laid together.
-/
import Derived.Test.YtnlepnfdgdbkoaaGreatDoorYStepE
namespace Go.Proofs.YtnlepnfdgdbkoaaGreatDoor
open Go.RowKit M
set_option linter.unusedVariables false
set_option linter.unusedSimpArgs false
theorem cas_at {zs : List Int} (hok : okC zs = true) (m : Nat) (hm : m < 71) (old n : Int) (hn : isW n = true) :
    (zs.getD m 0 = old → casC zs (m : Int) old n = zs.set m n ∧ casR zs (m : Int) old n = true) ∧ (zs.getD m 0 ≠ old → casC zs (m : Int) old n = zs ∧ casR zs (m : Int) old n = false) := by
  have ha : atC zs (m : Int) = true := atC_iff.2 ⟨hok, by omega, by omega⟩
  have hs : storeOk zs (m : Int) n = true := by unfold storeOk; rw [ha, hn]; rfl
  constructor
  · intro h
    have hc : casOk zs (m : Int) old = true := by unfold casOk; rw [ha, Int.toNat_natCast, h]; simp
    refine ⟨?_, by unfold casR; rw [hc, hs]; rfl⟩
    unfold casC storeC
    rw [if_pos hc, if_pos (by rw [ha, hn]; rfl), Int.toNat_natCast]
  · intro h
    have h' : (zs.getD m 0 == old) = false := by rw [beq_eq_false_iff_ne]; exact h
    have hc : casOk zs (m : Int) old = false := by unfold casOk; rw [ha, Int.toNat_natCast, h']; rfl
    exact ⟨by unfold casC; rw [hc]; rfl, by unfold casR; rw [hc]; rfl⟩
theorem PJ.gb {w : World} {κ : Nat → Nat} {g b cap : Nat} {vt : Value} {t : Nat} {s : S} {r : J} {vc vl : Value} (h : PJ w κ g b cap vt t s r vc vl) : g ≠ b := by
  intro e
  obtain ⟨vk, vr, _, _, _, _, hb2, _⟩ := h.cells
  have := h.six
  rw [e] at this
  omega
set_option maxRecDepth 100000 in
set_option maxHeartbeats 4000000 in
theorem iCasGauge_any (w : World) (κ : Nat → Nat) (g b cap : Nat) (vt : Value) (t : Nat) (s : S) (r : J) (vc vl : Value) (h : PJ w κ g b cap vt t s r vc vl) (hok : okC s.cells = true) (he : 0 ≤ r.e ∧ r.e ≤ 281474976710655) (hs : 0 ≤ r.slot ∧ r.slot ≤ 3) :
    Calls Tryz.prog 83 #[.pointer (some ⟨g, 0, none⟩), .int .i64 (t : Int), .pointer (some ⟨b, t * 18, none⟩)] w (PX w κ g b cap vt t (if cellV' s (jobCell r 3) = r.old then (putV' s (jobCell r 3) (gaugeV r.stamp r.op.val), { r with pc := 9 }) else (s, { r with pc := 6 }))) := by
  have hl := okC_len hok
  obtain ⟨cb, cc, rfl⟩ := h.vcs hl
  have ht4 : (t : Int) < 4 := by have := h.tl; omega
  have p0 : w.cell? ⟨g, 0, none⟩ = some (.slice (some ⟨cb, 0, none⟩) 71 cc) := h.blk.get 0
  have c10 : w.cell? ⟨b, t * 18 + 10, none⟩ = some (.int .i64 r.e) := h.jc 10 rfl
  have c8 : w.cell? ⟨b, t * 18 + 8, none⟩ = some (.int .i64 r.slot) := h.jc 8 rfl
  have HP := Lib.hid h
  have HM := Lib.hid (Mv.refl κ w)
  have HBF := fun W => Lib.hid (iBufOf_any W r.e he.1 he.2)
  obtain ⟨m, hm, hm71⟩ : ∃ m : Nat, jobCell r 3 = (m : Int) ∧ m < 71 := jobCell_nat hs 3 (by decide)
  have hmi : (m : Int) < 71 := by omega
  obtain ⟨p, hp⟩ : ∃ p : S × J, p = (if cellV' s (jobCell r 3) = r.old then (putV' s (jobCell r 3) (gaugeV r.stamp r.op.val), { r with pc := 9 }) else (s, { r with pc := 6 })) := ⟨_, rfl⟩
  rw [← hp]
  have HQ := Lib.hid hp
  clear hp
  have HI := fun W => Lib.hid (iGauge_any (r.e % 2) r.slot W)
  rw [cellV_job hs, hm] at HI
  obtain ⟨z, hz⟩ : ∃ z, s.cells.getD m 0 = z := ⟨_, rfl⟩
  have HR := Lib.hid (show cellV' s (jobCell r 3) = z by unfold cellV'; rw [hm, Int.toNat_natCast]; exact hz)
  have HPG := fun W => Lib.hid (iPackGauge_same W r.stamp r.op.val)
  have HS := Lib.hid (show putV' s (jobCell r 3) (gaugeV r.stamp r.op.val) = { s with cells := s.cells.set m (gaugeV r.stamp r.op.val) } by unfold putV'; rw [hm, Int.toNat_natCast])
  have hgw := gauge_word r.stamp r.op.val
  have hcas := cas_at hok m hm71 r.old (gaugeV r.stamp r.op.val) hgw
  rw [hz] at hcas
  have HC := fun W (hp : PJ W κ g b cap vt t s r (.slice (some ⟨cb, 0, none⟩) 71 cc) vl) => Lib.hid (iCas_any W (.slice (some ⟨cb, 0, none⟩) 71 cc) s.cells m r.old (gaugeV r.stamp r.op.val) (hp.ints hl) (by omega))
  have HLN := Lib.hid (show (casC s.cells m r.old (gaugeV r.stamp r.op.val)).length = 71 by rw [casC_length]; exact hl)
  have HCA := Lib.hid hcas
  clear hz hm h hcas hgw hl
  generalize gaugeV r.stamp r.op.val = gv at *
  go_enter Tryz.func83, Tryz.ntmps83
  go_wp2_with fail
  have HSD := Lib.hid (show w.drew.cell? ⟨g, 0, none⟩ = some ((.slice (some ⟨cb, 0, none⟩) 71 cc)) ∧ w.drew.cell? ⟨b, t * 18 + 10, none⟩ = some (.int .i64 r.e) ∧ w.drew.cell? ⟨b, t * 18 + 8, none⟩ = some (.int .i64 r.slot) ∧ PJ w.drew κ g b cap vt t s r (.slice (some ⟨cb, 0, none⟩) 71 cc) vl ∧ Mv κ κ w w.drew from ⟨p0, c10, c8, (HP.out).below (below_drew _ _), (HM.out).thn (below_drew _ _)⟩)
  have HCL := (⟨HSD.out⟩ : HoldsC (fun W => W.cell? ⟨g, 0, none⟩ = some ((.slice (some ⟨cb, 0, none⟩) 71 cc)) ∧ W.cell? ⟨b, t * 18 + 10, none⟩ = some (.int .i64 r.e) ∧ W.cell? ⟨b, t * 18 + 8, none⟩ = some (.int .i64 r.slot) ∧ PJ W κ g b cap vt t s r (.slice (some ⟨cb, 0, none⟩) 71 cc) vl ∧ Mv κ κ w W) _)
  have hall : ∀ p : Prop, (∀ W, HoldsC (fun W => W.cell? ⟨g, 0, none⟩ = some ((.slice (some ⟨cb, 0, none⟩) 71 cc)) ∧ W.cell? ⟨b, t * 18 + 10, none⟩ = some (.int .i64 r.e) ∧ W.cell? ⟨b, t * 18 + 8, none⟩ = some (.int .i64 r.slot) ∧ PJ W κ g b cap vt t s r (.slice (some ⟨cb, 0, none⟩) 71 cc) vl ∧ Mv κ κ w W) W → p) ↔ p := fun p => ⟨fun h => h _ HCL, fun h _ _ => h⟩
  refine wp_region_wq (C := HoldsC (fun W => W.cell? ⟨g, 0, none⟩ = some ((.slice (some ⟨cb, 0, none⟩) 71 cc)) ∧ W.cell? ⟨b, t * 18 + 10, none⟩ = some (.int .i64 r.e) ∧ W.cell? ⟨b, t * 18 + 8, none⟩ = some (.int .i64 r.slot) ∧ PJ W κ g b cap vt t s r (.slice (some ⟨cb, 0, none⟩) 71 cc) vl ∧ Mv κ κ w W)) (by kernel_rfl) (by kernel_rfl) HCL ?_
  repeat (refine WQ.step (fun K hK => ?_); go_simp; first | (refine hK _ ?_; clear hK K) | (apply Exists.intro; refine ⟨fun W hW => ?_, hK _ ?_⟩; (focus (first | (go_at_call 103; (with_reducible refine Calls.mono (Hid.out (HBF _)) ?_); rintro e w' ⟨rfl, rfl⟩; exact ⟨rfl, hW⟩) | (go_at_call 108; (with_reducible refine Calls.mono (Hid.out (HI _)) ?_); rintro e w' ⟨rfl, rfl⟩; exact ⟨rfl, hW⟩) | exact rfl | (obtain ⟨p0, c10, c8, hpq, hmq⟩ := hW.out; go_simp; rfl))); clear hK K))
  refine WQ.nil ?_
  intro W hW
  obtain ⟨p0, c10, c8, hpq, hmq⟩ := hW.out
  clear hall HCL
  have HP := Lib.hid hpq
  have HM := Lib.hid hmq
  clear hpq hmq hW HSD
  clear p0 c10 c8
  go_upto_region 1 with fail
  replace HP := Lib.hid (HP.out.below (below_drew _ _))
  replace HM := Lib.hid (HM.out.thn (below_drew _ _))
  refine wp_region_held_drew (S := fun X : World => X.cell? ⟨g, 0, none⟩ = some ((.slice (some ⟨cb, 0, none⟩) 71 cc)) ∧ X.cell? ⟨b, t * 18 + 12, none⟩ = some (.int .i64 r.old) ∧ X.cell? ⟨b, t * 18 + 11, none⟩ = some (.int .i64 r.stamp) ∧ X.cell? ⟨b, t * 18 + 4, none⟩ = some (.int .i64 r.op.val)) (by kernel_rfl) ⟨HP.out.blk.get 0, HP.out.jc 12 rfl, HP.out.jc 11 rfl, HP.out.jc 4 rfl⟩ (fun hHeld => ?_)
  clear hHeld
  generalize W.drew = X0 at *
  refine' wpAnyH_take (i := 0) (v := .pointer (some ⟨g, 0, none⟩)) rfl (by kernel_rfl) (by kernel_rfl) (by kernel_rfl) (fun _ _ _ h => h) (Or.inl ⟨by rfl, fun W h => by go_simp⟩) ⟨HP.out.blk.get 0, HP.out.jc 12 rfl, HP.out.jc 11 rfl, HP.out.jc 4 rfl⟩ ?_
  try simp only [Act.put, List.getElem_toArray, List.getElem_cons_succ, List.getElem_cons_zero, List.setIfInBounds_toArray, List.set_cons_zero, List.set_cons_succ]
  refine' wpAnyH_take (i := 1) (v := .pointer (some ⟨g, 0, none⟩)) rfl (by kernel_rfl) (by kernel_rfl) (by kernel_rfl) (fun _ _ _ h => h) (Or.inl ⟨by rfl, fun W h => by go_simp⟩) ⟨HP.out.blk.get 0, HP.out.jc 12 rfl, HP.out.jc 11 rfl, HP.out.jc 4 rfl⟩ ?_
  try simp only [Act.put, List.getElem_toArray, List.getElem_cons_succ, List.getElem_cons_zero, List.setIfInBounds_toArray, List.set_cons_zero, List.set_cons_succ]
  refine' wpAnyH_take (i := 2) (v := .pointer (some ⟨g, 0, none⟩)) rfl (by kernel_rfl) (by kernel_rfl) (by kernel_rfl) (fun _ _ _ h => h) (Or.inl ⟨by rfl, fun W h => by go_simp⟩) ⟨HP.out.blk.get 0, HP.out.jc 12 rfl, HP.out.jc 11 rfl, HP.out.jc 4 rfl⟩ ?_
  try simp only [Act.put, List.getElem_toArray, List.getElem_cons_succ, List.getElem_cons_zero, List.setIfInBounds_toArray, List.set_cons_zero, List.set_cons_succ]
  refine' wpAnyH_take (i := 3) (v := (.slice (some ⟨cb, 0, none⟩) 71 cc)) rfl (by kernel_rfl) (by kernel_rfl) (by kernel_rfl) (fun _ _ _ h => h) (Or.inl ⟨by rfl, fun W h => by have q : W.cell? ⟨g, 0, none⟩ = some ((.slice (some ⟨cb, 0, none⟩) 71 cc)) := h.1; go_simp⟩) ⟨HP.out.blk.get 0, HP.out.jc 12 rfl, HP.out.jc 11 rfl, HP.out.jc 4 rfl⟩ ?_
  try simp only [Act.put, List.getElem_toArray, List.getElem_cons_succ, List.getElem_cons_zero, List.setIfInBounds_toArray, List.set_cons_zero, List.set_cons_succ]
  refine' wpAnyH_take (i := 4) (v := .int .i64 (m : Int)) rfl (by kernel_rfl) (by kernel_rfl) (by kernel_rfl) (fun _ _ _ h => h) (Or.inl ⟨by rfl, fun W h => by go_simp⟩) ⟨HP.out.blk.get 0, HP.out.jc 12 rfl, HP.out.jc 11 rfl, HP.out.jc 4 rfl⟩ ?_
  try simp only [Act.put, List.getElem_toArray, List.getElem_cons_succ, List.getElem_cons_zero, List.setIfInBounds_toArray, List.set_cons_zero, List.set_cons_succ]
  refine' wpAnyH_take (i := 5) (v := .pointer (some ⟨b, t * 18, none⟩)) rfl (by kernel_rfl) (by kernel_rfl) (by kernel_rfl) (fun _ _ _ h => h) (Or.inl ⟨by rfl, fun W h => by go_simp⟩) ⟨HP.out.blk.get 0, HP.out.jc 12 rfl, HP.out.jc 11 rfl, HP.out.jc 4 rfl⟩ ?_
  try simp only [Act.put, List.getElem_toArray, List.getElem_cons_succ, List.getElem_cons_zero, List.setIfInBounds_toArray, List.set_cons_zero, List.set_cons_succ]
  refine' wpAnyH_take (i := 6) (v := .pointer (some ⟨b, t * 18, none⟩)) rfl (by kernel_rfl) (by kernel_rfl) (by kernel_rfl) (fun _ _ _ h => h) (Or.inl ⟨by rfl, fun W h => by go_simp⟩) ⟨HP.out.blk.get 0, HP.out.jc 12 rfl, HP.out.jc 11 rfl, HP.out.jc 4 rfl⟩ ?_
  try simp only [Act.put, List.getElem_toArray, List.getElem_cons_succ, List.getElem_cons_zero, List.setIfInBounds_toArray, List.set_cons_zero, List.set_cons_succ]
  refine' wpAnyH_take (i := 7) (v := .pointer (some ⟨b, t * 18 + 12, none⟩)) rfl (by kernel_rfl) (by kernel_rfl) (by kernel_rfl) (fun _ _ _ h => h) (Or.inl ⟨by rfl, fun W h => by go_simp⟩) ⟨HP.out.blk.get 0, HP.out.jc 12 rfl, HP.out.jc 11 rfl, HP.out.jc 4 rfl⟩ ?_
  try simp only [Act.put, List.getElem_toArray, List.getElem_cons_succ, List.getElem_cons_zero, List.setIfInBounds_toArray, List.set_cons_zero, List.set_cons_succ]
  refine' wpAnyH_take (i := 8) (v := .int .i64 r.old) rfl (by kernel_rfl) (by kernel_rfl) (by kernel_rfl) (fun _ _ _ h => h) (Or.inl ⟨by rfl, fun W h => by have q : W.cell? ⟨b, t * 18 + 12, none⟩ = some (.int .i64 r.old) := h.2.1; go_simp⟩) ⟨HP.out.blk.get 0, HP.out.jc 12 rfl, HP.out.jc 11 rfl, HP.out.jc 4 rfl⟩ ?_
  try simp only [Act.put, List.getElem_toArray, List.getElem_cons_succ, List.getElem_cons_zero, List.setIfInBounds_toArray, List.set_cons_zero, List.set_cons_succ]
  refine' wpAnyH_take (i := 9) (v := .pointer (some ⟨b, t * 18, none⟩)) rfl (by kernel_rfl) (by kernel_rfl) (by kernel_rfl) (fun _ _ _ h => h) (Or.inl ⟨by rfl, fun W h => by go_simp⟩) ⟨HP.out.blk.get 0, HP.out.jc 12 rfl, HP.out.jc 11 rfl, HP.out.jc 4 rfl⟩ ?_
  try simp only [Act.put, List.getElem_toArray, List.getElem_cons_succ, List.getElem_cons_zero, List.setIfInBounds_toArray, List.set_cons_zero, List.set_cons_succ]
  refine' wpAnyH_take (i := 10) (v := .pointer (some ⟨b, t * 18, none⟩)) rfl (by kernel_rfl) (by kernel_rfl) (by kernel_rfl) (fun _ _ _ h => h) (Or.inl ⟨by rfl, fun W h => by go_simp⟩) ⟨HP.out.blk.get 0, HP.out.jc 12 rfl, HP.out.jc 11 rfl, HP.out.jc 4 rfl⟩ ?_
  try simp only [Act.put, List.getElem_toArray, List.getElem_cons_succ, List.getElem_cons_zero, List.setIfInBounds_toArray, List.set_cons_zero, List.set_cons_succ]
  refine' wpAnyH_take (i := 11) (v := .pointer (some ⟨b, t * 18 + 11, none⟩)) rfl (by kernel_rfl) (by kernel_rfl) (by kernel_rfl) (fun _ _ _ h => h) (Or.inl ⟨by rfl, fun W h => by go_simp⟩) ⟨HP.out.blk.get 0, HP.out.jc 12 rfl, HP.out.jc 11 rfl, HP.out.jc 4 rfl⟩ ?_
  try simp only [Act.put, List.getElem_toArray, List.getElem_cons_succ, List.getElem_cons_zero, List.setIfInBounds_toArray, List.set_cons_zero, List.set_cons_succ]
  refine' wpAnyH_take (i := 12) (v := .int .i64 r.stamp) rfl (by kernel_rfl) (by kernel_rfl) (by kernel_rfl) (fun _ _ _ h => h) (Or.inl ⟨by rfl, fun W h => by have q : W.cell? ⟨b, t * 18 + 11, none⟩ = some (.int .i64 r.stamp) := h.2.2.1; go_simp⟩) ⟨HP.out.blk.get 0, HP.out.jc 12 rfl, HP.out.jc 11 rfl, HP.out.jc 4 rfl⟩ ?_
  try simp only [Act.put, List.getElem_toArray, List.getElem_cons_succ, List.getElem_cons_zero, List.setIfInBounds_toArray, List.set_cons_zero, List.set_cons_succ]
  refine' wpAnyH_take (i := 13) (v := .pointer (some ⟨b, t * 18, none⟩)) rfl (by kernel_rfl) (by kernel_rfl) (by kernel_rfl) (fun _ _ _ h => h) (Or.inl ⟨by rfl, fun W h => by go_simp⟩) ⟨HP.out.blk.get 0, HP.out.jc 12 rfl, HP.out.jc 11 rfl, HP.out.jc 4 rfl⟩ ?_
  try simp only [Act.put, List.getElem_toArray, List.getElem_cons_succ, List.getElem_cons_zero, List.setIfInBounds_toArray, List.set_cons_zero, List.set_cons_succ]
  refine' wpAnyH_take (i := 14) (v := .pointer (some ⟨b, t * 18, none⟩)) rfl (by kernel_rfl) (by kernel_rfl) (by kernel_rfl) (fun _ _ _ h => h) (Or.inl ⟨by rfl, fun W h => by go_simp⟩) ⟨HP.out.blk.get 0, HP.out.jc 12 rfl, HP.out.jc 11 rfl, HP.out.jc 4 rfl⟩ ?_
  try simp only [Act.put, List.getElem_toArray, List.getElem_cons_succ, List.getElem_cons_zero, List.setIfInBounds_toArray, List.set_cons_zero, List.set_cons_succ]
  refine' wpAnyH_take (i := 15) (v := .pointer (some ⟨b, t * 18 + 1, none⟩)) rfl (by kernel_rfl) (by kernel_rfl) (by kernel_rfl) (fun _ _ _ h => h) (Or.inl ⟨by rfl, fun W h => by go_simp⟩) ⟨HP.out.blk.get 0, HP.out.jc 12 rfl, HP.out.jc 11 rfl, HP.out.jc 4 rfl⟩ ?_
  try simp only [Act.put, List.getElem_toArray, List.getElem_cons_succ, List.getElem_cons_zero, List.setIfInBounds_toArray, List.set_cons_zero, List.set_cons_succ]
  refine' wpAnyH_take (i := 16) (v := .pointer (some ⟨b, t * 18 + 4, none⟩)) rfl (by kernel_rfl) (by kernel_rfl) (by kernel_rfl) (fun _ _ _ h => h) (Or.inl ⟨by rfl, fun W h => by go_simp⟩) ⟨HP.out.blk.get 0, HP.out.jc 12 rfl, HP.out.jc 11 rfl, HP.out.jc 4 rfl⟩ ?_
  try simp only [Act.put, List.getElem_toArray, List.getElem_cons_succ, List.getElem_cons_zero, List.setIfInBounds_toArray, List.set_cons_zero, List.set_cons_succ]
  refine' wpAnyH_take (i := 17) (v := .int .i64 r.op.val) rfl (by kernel_rfl) (by kernel_rfl) (by kernel_rfl) (fun _ _ _ h => h) (Or.inl ⟨by rfl, fun W h => by have q : W.cell? ⟨b, t * 18 + 4, none⟩ = some (.int .i64 r.op.val) := h.2.2.2; go_simp⟩) ⟨HP.out.blk.get 0, HP.out.jc 12 rfl, HP.out.jc 11 rfl, HP.out.jc 4 rfl⟩ ?_
  try simp only [Act.put, List.getElem_toArray, List.getElem_cons_succ, List.getElem_cons_zero, List.setIfInBounds_toArray, List.set_cons_zero, List.set_cons_succ]
  refine wpAnyH_ready (rs := [18]) (by kernel_rfl) (by simp) ?_
  refine AllReadyH.cons rfl (fun K hK => ?_) AllReadyH.nil
  go_simp
  refine (HPG _).out.mono ?_
  rintro e W9 ⟨rfl, rfl⟩
  refine hK.out _ _ ⟨HP.out.blk.get 0, HP.out.jc 12 rfl, HP.out.jc 11 rfl, HP.out.jc 4 rfl⟩ (fun hHeld => ?_)
  clear hK K hHeld
  try simp only [Act.put, List.getElem_toArray, List.getElem_cons_succ, List.getElem_cons_zero, List.setIfInBounds_toArray, List.set_cons_zero, List.set_cons_succ]
  refine wpAnyH_ready (rs := [19]) (by kernel_rfl) (by simp) ?_
  refine AllReadyH.cons rfl (fun K hK => ?_) AllReadyH.nil
  go_simp
  refine ((HC _ HP.out).out).mono ?_
  rintro e X1 ⟨vq, rfl, ho, hb⟩
  obtain ⟨ga, ca, rfl⟩ := ho.2
  have HNC := Lib.hid (HP.out.newCells hb ho.1)
  rw [HLN.out] at HNC ⊢
  have HM0 := Lib.hid HM.out
  replace HM := Lib.hid (HM.out.thn (hb.mono HM.out.size))
  replace HP := Lib.hid (HP.out.below hb)
  refine hK.out _ _ ⟨HP.out.blk.get 0, HP.out.jc 12 rfl, HP.out.jc 11 rfl, HP.out.jc 4 rfl⟩ (fun hHeld => ?_)
  clear hK K hHeld ho hb
  try simp only [Act.put, List.getElem_toArray, List.getElem_cons_succ, List.getElem_cons_zero, List.setIfInBounds_toArray, List.set_cons_zero, List.set_cons_succ]
  refine' wpAnyH_take (i := 20) (v := .tuple #[.slice (some ⟨ga, 0, none⟩) 71 ca, .bool (casR s.cells m r.old gv)]) rfl (by kernel_rfl) (by kernel_rfl) (by kernel_rfl) (fun _ _ _ h => h) (Or.inl ⟨by rfl, fun W h => by go_simp⟩) ⟨HP.out.blk.get 0, HP.out.jc 12 rfl, HP.out.jc 11 rfl, HP.out.jc 4 rfl⟩ ?_
  try simp only [Act.put, List.getElem_toArray, List.getElem_cons_succ, List.getElem_cons_zero, List.setIfInBounds_toArray, List.set_cons_zero, List.set_cons_succ]
  refine' wpAnyH_take (i := 21) (v := .slice (some ⟨ga, 0, none⟩) 71 ca) rfl (by kernel_rfl) (by kernel_rfl) (by kernel_rfl) (fun _ _ _ h => h) (Or.inl ⟨by rfl, fun W h => by go_simp⟩) ⟨HP.out.blk.get 0, HP.out.jc 12 rfl, HP.out.jc 11 rfl, HP.out.jc 4 rfl⟩ ?_
  try simp only [Act.put, List.getElem_toArray, List.getElem_cons_succ, List.getElem_cons_zero, List.setIfInBounds_toArray, List.set_cons_zero, List.set_cons_succ]
  refine' wpAnyH_take (i := 22) (v := .bool (casR s.cells m r.old gv)) rfl (by kernel_rfl) (by kernel_rfl) (by kernel_rfl) (fun _ _ _ h => h) (Or.inl ⟨by rfl, fun W h => by go_simp⟩) ⟨HP.out.blk.get 0, HP.out.jc 12 rfl, HP.out.jc 11 rfl, HP.out.jc 4 rfl⟩ ?_
  try simp only [Act.put, List.getElem_toArray, List.getElem_cons_succ, List.getElem_cons_zero, List.setIfInBounds_toArray, List.set_cons_zero, List.set_cons_succ]
  refine' wpAnyH_take (i := 23) (v := .slice (some ⟨ga, 0, none⟩) 71 ca) rfl (by kernel_rfl) (by kernel_rfl) (by kernel_rfl) (fun _ _ _ h => h) (Or.inl ⟨by rfl, fun W h => by go_simp⟩) ⟨HP.out.blk.get 0, HP.out.jc 12 rfl, HP.out.jc 11 rfl, HP.out.jc 4 rfl⟩ ?_
  try simp only [Act.put, List.getElem_toArray, List.getElem_cons_succ, List.getElem_cons_zero, List.setIfInBounds_toArray, List.set_cons_zero, List.set_cons_succ]
  refine' wpAnyH_take (i := 24) (v := .bool (casR s.cells m r.old gv)) rfl (by kernel_rfl) (by kernel_rfl) (by kernel_rfl) (fun _ _ _ h => h) (Or.inl ⟨by rfl, fun W h => by go_simp⟩) ⟨HP.out.blk.get 0, HP.out.jc 12 rfl, HP.out.jc 11 rfl, HP.out.jc 4 rfl⟩ ?_
  try simp only [Act.put, List.getElem_toArray, List.getElem_cons_succ, List.getElem_cons_zero, List.setIfInBounds_toArray, List.set_cons_zero, List.set_cons_succ]
  refine wpAnyH_done (by kernel_rfl) ?_ _
  by_cases hz : z = r.old
  · have HE := Lib.hid (HCA.out.1 hz)
    rw [HE.out.1] at HNC
    rw [HE.out.2]
    rw [HR.out, if_pos hz] at HQ
    clear hz
    have p0 : X1.cell? ⟨g, 0, none⟩ = some (.slice (some ⟨cb, 0, none⟩) 71 cc) := HP.out.blk.get 0
    have f0 : X1.frozen? ⟨g, 0, none⟩ = false := HP.out.blk.frz 0
    obtain ⟨κ1, hp1, hm1⟩ := HNC.out
    have c6 : X1.cell? ⟨b, t * 18 + 6, none⟩ = some (.int .i64 r.pc) := HP.out.jc 6 rfl
    have f6 : X1.frozen? ⟨b, t * 18 + 6, none⟩ = false := HP.out.jf _
    have hgb : g ≠ b := HP.out.gb
    have h1 := hp1.fld 6 (by decide) (r' := { r with pc := 9 }) (.int .i64 9) rfl rfl
    have HF := Lib.hid h1.1
    have HG := Lib.hid ((HM0.out.trans hm1).trans h1.2)
    clear h1 hp1 hm1 HNC HCA HC HE
    go_wp2_with fail
    go_end0
    rw [HQ.out]
    exact ⟨rfl, κ1, _, vl, by rw [HS.out]; exact HF.out, HG.out⟩
  · have HE := Lib.hid (HCA.out.2 hz)
    rw [HE.out.1] at HNC
    rw [HE.out.2]
    rw [HR.out, if_neg hz] at HQ
    clear hz
    have c6 : X1.cell? ⟨b, t * 18 + 6, none⟩ = some (.int .i64 (r : J).pc) := (HP.out).jc 6 rfl
    have f6 : X1.frozen? ⟨b, t * 18 + 6, none⟩ = false := (HP.out).jf _
    have h1 := (HP.out).fld 6 (by decide) (r' := { r with pc := 6 }) (.int .i64 (6)) rfl rfl
    have HF := Lib.hid (h1.1)
    have HG := Lib.hid ((HM.out).trans h1.2)
    clear h1
    clear HNC HCA HC HE
    go_wp2_with fail
    go_end0
    rw [HQ.out]
    exact ⟨rfl, κ, _, vl, HF.out, HG.out⟩
set_option maxRecDepth 100000 in
set_option maxHeartbeats 4000000 in
theorem iClaimSlot_any (w : World) (κ : Nat → Nat) (g b cap : Nat) (vt : Value) (t : Nat) (s : S) (r : J) (vc vl : Value) (h : PJ w κ g b cap vt t s r vc vl) (hok : okC s.cells = true) (hlen : s.log.length ≤ 1048576) (hk : 0 ≤ r.k ∧ r.k ≤ 3) (hkey : keyOkV r.op.key = true) (hks : r.op.key.size ≤ maxLen) :
    Calls Tryz.prog 77 #[.pointer (some ⟨g, 0, none⟩), .int .i64 (t : Int), .pointer (some ⟨b, t * 18, none⟩)] w (PX w κ g b cap vt t (claimS s t r)) := by
  have hl := okC_len hok
  obtain ⟨cb, cc, rfl⟩ := h.vcs hl
  have ht4 : (t : Int) < 4 := by have := h.tl; omega
  have p0 : w.cell? ⟨g, 0, none⟩ = some (.slice (some ⟨cb, 0, none⟩) 71 cc) := h.blk.get 0
  have c2 : w.cell? ⟨b, t * 18 + 2, none⟩ = some (.string r.op.key) := h.jc 2 rfl
  have c7 : w.cell? ⟨b, t * 18 + 7, none⟩ = some (.int .i64 r.k) := h.jc 7 rfl
  have HP := Lib.hid h
  have HM := Lib.hid (Mv.refl κ w)
  obtain ⟨m, hm, hm71⟩ : ∃ m : Nat, 3 + probeV r.op.key r.k = (m : Int) ∧ m < 71 := by have := probe_range hkey hk; exact ⟨(3 + probeV r.op.key r.k).toNat, by omega, by omega⟩
  have hmi : (m : Int) < 71 := by omega
  obtain ⟨p, hp⟩ : ∃ p : S × J, p = claimS s t r := ⟨_, rfl⟩
  rw [← hp]
  unfold claimS at hp
  have HQ := Lib.hid hp
  clear hp
  have HPR := fun W => Lib.hid (iProbe_same W r.op.key r.k hks)
  have HKC := fun W => Lib.hid (iKey_any (probeV r.op.key r.k) W)
  rw [keyV_yes (probe_range hkey hk), hm] at HKC
  obtain ⟨z, hz⟩ : ∃ z, s.cells.getD m 0 = z := ⟨_, rfl⟩
  have HR := Lib.hid (show cellV' s (3 + probeV r.op.key r.k) = z by unfold cellV'; rw [hm, Int.toNat_natCast]; exact hz)
  have HTG := fun W => Lib.hid (iTagged_same W r.op.key r.op.what hks)
  have HS := Lib.hid (show putV' s (3 + probeV r.op.key r.k) (tagV r.op.key r.op.what) = { s with cells := s.cells.set m (tagV r.op.key r.op.what) } by unfold putV'; rw [hm, Int.toNat_natCast])
  have hcas := cas_at hok m hm71 0 (tagV r.op.key r.op.what) (tag_word _ _)
  rw [hz] at hcas
  have HC := fun W (hp : PJ W κ g b cap vt t s r (.slice (some ⟨cb, 0, none⟩) 71 cc) vl) => Lib.hid (iCas_any W (.slice (some ⟨cb, 0, none⟩) 71 cc) s.cells m 0 (tagV r.op.key r.op.what) (hp.ints hl) (by omega))
  have HLN := Lib.hid (show (casC s.cells m 0 (tagV r.op.key r.op.what)).length = 71 by rw [casC_length]; exact hl)
  have HCA := Lib.hid hcas
  clear hz hm h hcas hl
  generalize probeV r.op.key r.k = pv at *
  generalize tagV r.op.key r.op.what = gv at *
  go_enter Tryz.func77, Tryz.ntmps77
  go_wp2_with fail
  have HSD := Lib.hid (show w.drew.cell? ⟨b, t * 18 + 2, none⟩ = some (.string r.op.key) ∧ w.drew.cell? ⟨b, t * 18 + 7, none⟩ = some (.int .i64 r.k) ∧ PJ w.drew κ g b cap vt t s r (.slice (some ⟨cb, 0, none⟩) 71 cc) vl ∧ Mv κ κ w w.drew from ⟨c2, c7, (HP.out).below (below_drew _ _), (HM.out).thn (below_drew _ _)⟩)
  have HCL := (⟨HSD.out⟩ : HoldsC (fun W => W.cell? ⟨b, t * 18 + 2, none⟩ = some (.string r.op.key) ∧ W.cell? ⟨b, t * 18 + 7, none⟩ = some (.int .i64 r.k) ∧ PJ W κ g b cap vt t s r (.slice (some ⟨cb, 0, none⟩) 71 cc) vl ∧ Mv κ κ w W) _)
  have hall : ∀ p : Prop, (∀ W, HoldsC (fun W => W.cell? ⟨b, t * 18 + 2, none⟩ = some (.string r.op.key) ∧ W.cell? ⟨b, t * 18 + 7, none⟩ = some (.int .i64 r.k) ∧ PJ W κ g b cap vt t s r (.slice (some ⟨cb, 0, none⟩) 71 cc) vl ∧ Mv κ κ w W) W → p) ↔ p := fun p => ⟨fun h => h _ HCL, fun h _ _ => h⟩
  refine wp_region_wq (C := HoldsC (fun W => W.cell? ⟨b, t * 18 + 2, none⟩ = some (.string r.op.key) ∧ W.cell? ⟨b, t * 18 + 7, none⟩ = some (.int .i64 r.k) ∧ PJ W κ g b cap vt t s r (.slice (some ⟨cb, 0, none⟩) 71 cc) vl ∧ Mv κ κ w W)) (by kernel_rfl) (by kernel_rfl) HCL ?_
  repeat (refine WQ.step (fun K hK => ?_); go_simp; first | (refine hK _ ?_; clear hK K) | (apply Exists.intro; refine ⟨fun W hW => ?_, hK _ ?_⟩; (focus (first | (go_at_call 93; (with_reducible refine Calls.mono (Hid.out (HPR _)) ?_); rintro e w' ⟨rfl, rfl⟩; exact ⟨rfl, hW⟩) | (go_at_call 94; (with_reducible refine Calls.mono (Hid.out (HKC _)) ?_); rintro e w' ⟨rfl, rfl⟩; exact ⟨rfl, hW⟩) | exact rfl | (obtain ⟨c2, c7, hpq, hmq⟩ := hW.out; go_simp; rfl))); clear hK K))
  refine WQ.nil ?_
  intro W hW
  obtain ⟨c2, c7, hpq, hmq⟩ := hW.out
  clear hall HCL
  have HP := Lib.hid hpq
  have HM := Lib.hid hmq
  clear hpq hmq hW HSD
  clear p0 c2 c7
  go_upto_region 1 with fail
  replace HP := Lib.hid (HP.out.below (below_drew _ _))
  replace HM := Lib.hid (HM.out.thn (below_drew _ _))
  refine wp_region_held_drew (S := fun X : World => X.cell? ⟨g, 0, none⟩ = some ((.slice (some ⟨cb, 0, none⟩) 71 cc)) ∧ X.cell? ⟨b, t * 18 + 2, none⟩ = some (.string r.op.key) ∧ X.cell? ⟨b, t * 18 + 3, none⟩ = some (.int .i64 r.op.what)) (by kernel_rfl) ⟨HP.out.blk.get 0, HP.out.jc 2 rfl, HP.out.jc 3 rfl⟩ (fun hHeld => ?_)
  clear hHeld
  generalize W.drew = X0 at *
  refine' wpAnyH_take (i := 0) (v := .pointer (some ⟨g, 0, none⟩)) rfl (by kernel_rfl) (by kernel_rfl) (by kernel_rfl) (fun _ _ _ h => h) (Or.inl ⟨by rfl, fun W h => by go_simp⟩) ⟨HP.out.blk.get 0, HP.out.jc 2 rfl, HP.out.jc 3 rfl⟩ ?_
  try simp only [Act.put, List.getElem_toArray, List.getElem_cons_succ, List.getElem_cons_zero, List.setIfInBounds_toArray, List.set_cons_zero, List.set_cons_succ]
  refine' wpAnyH_take (i := 1) (v := .pointer (some ⟨g, 0, none⟩)) rfl (by kernel_rfl) (by kernel_rfl) (by kernel_rfl) (fun _ _ _ h => h) (Or.inl ⟨by rfl, fun W h => by go_simp⟩) ⟨HP.out.blk.get 0, HP.out.jc 2 rfl, HP.out.jc 3 rfl⟩ ?_
  try simp only [Act.put, List.getElem_toArray, List.getElem_cons_succ, List.getElem_cons_zero, List.setIfInBounds_toArray, List.set_cons_zero, List.set_cons_succ]
  refine' wpAnyH_take (i := 2) (v := .pointer (some ⟨g, 0, none⟩)) rfl (by kernel_rfl) (by kernel_rfl) (by kernel_rfl) (fun _ _ _ h => h) (Or.inl ⟨by rfl, fun W h => by go_simp⟩) ⟨HP.out.blk.get 0, HP.out.jc 2 rfl, HP.out.jc 3 rfl⟩ ?_
  try simp only [Act.put, List.getElem_toArray, List.getElem_cons_succ, List.getElem_cons_zero, List.setIfInBounds_toArray, List.set_cons_zero, List.set_cons_succ]
  refine' wpAnyH_take (i := 3) (v := (.slice (some ⟨cb, 0, none⟩) 71 cc)) rfl (by kernel_rfl) (by kernel_rfl) (by kernel_rfl) (fun _ _ _ h => h) (Or.inl ⟨by rfl, fun W h => by have q : W.cell? ⟨g, 0, none⟩ = some ((.slice (some ⟨cb, 0, none⟩) 71 cc)) := h.1; go_simp⟩) ⟨HP.out.blk.get 0, HP.out.jc 2 rfl, HP.out.jc 3 rfl⟩ ?_
  try simp only [Act.put, List.getElem_toArray, List.getElem_cons_succ, List.getElem_cons_zero, List.setIfInBounds_toArray, List.set_cons_zero, List.set_cons_succ]
  refine' wpAnyH_take (i := 4) (v := .int .i64 (m : Int)) rfl (by kernel_rfl) (by kernel_rfl) (by kernel_rfl) (fun _ _ _ h => h) (Or.inl ⟨by rfl, fun W h => by go_simp⟩) ⟨HP.out.blk.get 0, HP.out.jc 2 rfl, HP.out.jc 3 rfl⟩ ?_
  try simp only [Act.put, List.getElem_toArray, List.getElem_cons_succ, List.getElem_cons_zero, List.setIfInBounds_toArray, List.set_cons_zero, List.set_cons_succ]
  refine' wpAnyH_take (i := 5) (v := .pointer (some ⟨b, t * 18, none⟩)) rfl (by kernel_rfl) (by kernel_rfl) (by kernel_rfl) (fun _ _ _ h => h) (Or.inl ⟨by rfl, fun W h => by go_simp⟩) ⟨HP.out.blk.get 0, HP.out.jc 2 rfl, HP.out.jc 3 rfl⟩ ?_
  try simp only [Act.put, List.getElem_toArray, List.getElem_cons_succ, List.getElem_cons_zero, List.setIfInBounds_toArray, List.set_cons_zero, List.set_cons_succ]
  refine' wpAnyH_take (i := 6) (v := .pointer (some ⟨b, t * 18, none⟩)) rfl (by kernel_rfl) (by kernel_rfl) (by kernel_rfl) (fun _ _ _ h => h) (Or.inl ⟨by rfl, fun W h => by go_simp⟩) ⟨HP.out.blk.get 0, HP.out.jc 2 rfl, HP.out.jc 3 rfl⟩ ?_
  try simp only [Act.put, List.getElem_toArray, List.getElem_cons_succ, List.getElem_cons_zero, List.setIfInBounds_toArray, List.set_cons_zero, List.set_cons_succ]
  refine' wpAnyH_take (i := 7) (v := .pointer (some ⟨b, t * 18 + 1, none⟩)) rfl (by kernel_rfl) (by kernel_rfl) (by kernel_rfl) (fun _ _ _ h => h) (Or.inl ⟨by rfl, fun W h => by go_simp⟩) ⟨HP.out.blk.get 0, HP.out.jc 2 rfl, HP.out.jc 3 rfl⟩ ?_
  try simp only [Act.put, List.getElem_toArray, List.getElem_cons_succ, List.getElem_cons_zero, List.setIfInBounds_toArray, List.set_cons_zero, List.set_cons_succ]
  refine' wpAnyH_take (i := 8) (v := .pointer (some ⟨b, t * 18 + 2, none⟩)) rfl (by kernel_rfl) (by kernel_rfl) (by kernel_rfl) (fun _ _ _ h => h) (Or.inl ⟨by rfl, fun W h => by go_simp⟩) ⟨HP.out.blk.get 0, HP.out.jc 2 rfl, HP.out.jc 3 rfl⟩ ?_
  try simp only [Act.put, List.getElem_toArray, List.getElem_cons_succ, List.getElem_cons_zero, List.setIfInBounds_toArray, List.set_cons_zero, List.set_cons_succ]
  refine' wpAnyH_take (i := 9) (v := .string r.op.key) rfl (by kernel_rfl) (by kernel_rfl) (by kernel_rfl) (fun _ _ _ h => h) (Or.inl ⟨by rfl, fun W h => by have q : W.cell? ⟨b, t * 18 + 2, none⟩ = some (.string r.op.key) := h.2.1; go_simp⟩) ⟨HP.out.blk.get 0, HP.out.jc 2 rfl, HP.out.jc 3 rfl⟩ ?_
  try simp only [Act.put, List.getElem_toArray, List.getElem_cons_succ, List.getElem_cons_zero, List.setIfInBounds_toArray, List.set_cons_zero, List.set_cons_succ]
  refine' wpAnyH_take (i := 10) (v := .pointer (some ⟨b, t * 18, none⟩)) rfl (by kernel_rfl) (by kernel_rfl) (by kernel_rfl) (fun _ _ _ h => h) (Or.inl ⟨by rfl, fun W h => by go_simp⟩) ⟨HP.out.blk.get 0, HP.out.jc 2 rfl, HP.out.jc 3 rfl⟩ ?_
  try simp only [Act.put, List.getElem_toArray, List.getElem_cons_succ, List.getElem_cons_zero, List.setIfInBounds_toArray, List.set_cons_zero, List.set_cons_succ]
  refine' wpAnyH_take (i := 11) (v := .pointer (some ⟨b, t * 18, none⟩)) rfl (by kernel_rfl) (by kernel_rfl) (by kernel_rfl) (fun _ _ _ h => h) (Or.inl ⟨by rfl, fun W h => by go_simp⟩) ⟨HP.out.blk.get 0, HP.out.jc 2 rfl, HP.out.jc 3 rfl⟩ ?_
  try simp only [Act.put, List.getElem_toArray, List.getElem_cons_succ, List.getElem_cons_zero, List.setIfInBounds_toArray, List.set_cons_zero, List.set_cons_succ]
  refine' wpAnyH_take (i := 12) (v := .pointer (some ⟨b, t * 18 + 1, none⟩)) rfl (by kernel_rfl) (by kernel_rfl) (by kernel_rfl) (fun _ _ _ h => h) (Or.inl ⟨by rfl, fun W h => by go_simp⟩) ⟨HP.out.blk.get 0, HP.out.jc 2 rfl, HP.out.jc 3 rfl⟩ ?_
  try simp only [Act.put, List.getElem_toArray, List.getElem_cons_succ, List.getElem_cons_zero, List.setIfInBounds_toArray, List.set_cons_zero, List.set_cons_succ]
  refine' wpAnyH_take (i := 13) (v := .pointer (some ⟨b, t * 18 + 3, none⟩)) rfl (by kernel_rfl) (by kernel_rfl) (by kernel_rfl) (fun _ _ _ h => h) (Or.inl ⟨by rfl, fun W h => by go_simp⟩) ⟨HP.out.blk.get 0, HP.out.jc 2 rfl, HP.out.jc 3 rfl⟩ ?_
  try simp only [Act.put, List.getElem_toArray, List.getElem_cons_succ, List.getElem_cons_zero, List.setIfInBounds_toArray, List.set_cons_zero, List.set_cons_succ]
  refine' wpAnyH_take (i := 14) (v := .int .i64 r.op.what) rfl (by kernel_rfl) (by kernel_rfl) (by kernel_rfl) (fun _ _ _ h => h) (Or.inl ⟨by rfl, fun W h => by have q : W.cell? ⟨b, t * 18 + 3, none⟩ = some (.int .i64 r.op.what) := h.2.2; go_simp⟩) ⟨HP.out.blk.get 0, HP.out.jc 2 rfl, HP.out.jc 3 rfl⟩ ?_
  try simp only [Act.put, List.getElem_toArray, List.getElem_cons_succ, List.getElem_cons_zero, List.setIfInBounds_toArray, List.set_cons_zero, List.set_cons_succ]
  refine wpAnyH_ready (rs := [15]) (by kernel_rfl) (by simp) ?_
  refine AllReadyH.cons rfl (fun K hK => ?_) AllReadyH.nil
  go_simp
  refine (HTG _).out.mono ?_
  rintro e W9 ⟨rfl, rfl⟩
  refine hK.out _ _ ⟨HP.out.blk.get 0, HP.out.jc 2 rfl, HP.out.jc 3 rfl⟩ (fun hHeld => ?_)
  clear hK K hHeld
  try simp only [Act.put, List.getElem_toArray, List.getElem_cons_succ, List.getElem_cons_zero, List.setIfInBounds_toArray, List.set_cons_zero, List.set_cons_succ]
  refine wpAnyH_ready (rs := [16]) (by kernel_rfl) (by simp) ?_
  refine AllReadyH.cons rfl (fun K hK => ?_) AllReadyH.nil
  go_simp
  refine ((HC _ HP.out).out).mono ?_
  rintro e X1 ⟨vq, rfl, ho, hb⟩
  obtain ⟨ga, ca, rfl⟩ := ho.2
  have HNC := Lib.hid (HP.out.newCells hb ho.1)
  rw [HLN.out] at HNC ⊢
  have HM0 := Lib.hid HM.out
  replace HM := Lib.hid (HM.out.thn (hb.mono HM.out.size))
  replace HP := Lib.hid (HP.out.below hb)
  refine hK.out _ _ ⟨HP.out.blk.get 0, HP.out.jc 2 rfl, HP.out.jc 3 rfl⟩ (fun hHeld => ?_)
  clear hK K hHeld ho hb
  try simp only [Act.put, List.getElem_toArray, List.getElem_cons_succ, List.getElem_cons_zero, List.setIfInBounds_toArray, List.set_cons_zero, List.set_cons_succ]
  refine' wpAnyH_take (i := 17) (v := .tuple #[.slice (some ⟨ga, 0, none⟩) 71 ca, .bool (casR s.cells m 0 gv)]) rfl (by kernel_rfl) (by kernel_rfl) (by kernel_rfl) (fun _ _ _ h => h) (Or.inl ⟨by rfl, fun W h => by go_simp⟩) ⟨HP.out.blk.get 0, HP.out.jc 2 rfl, HP.out.jc 3 rfl⟩ ?_
  try simp only [Act.put, List.getElem_toArray, List.getElem_cons_succ, List.getElem_cons_zero, List.setIfInBounds_toArray, List.set_cons_zero, List.set_cons_succ]
  refine' wpAnyH_take (i := 18) (v := .slice (some ⟨ga, 0, none⟩) 71 ca) rfl (by kernel_rfl) (by kernel_rfl) (by kernel_rfl) (fun _ _ _ h => h) (Or.inl ⟨by rfl, fun W h => by go_simp⟩) ⟨HP.out.blk.get 0, HP.out.jc 2 rfl, HP.out.jc 3 rfl⟩ ?_
  try simp only [Act.put, List.getElem_toArray, List.getElem_cons_succ, List.getElem_cons_zero, List.setIfInBounds_toArray, List.set_cons_zero, List.set_cons_succ]
  refine' wpAnyH_take (i := 19) (v := .bool (casR s.cells m 0 gv)) rfl (by kernel_rfl) (by kernel_rfl) (by kernel_rfl) (fun _ _ _ h => h) (Or.inl ⟨by rfl, fun W h => by go_simp⟩) ⟨HP.out.blk.get 0, HP.out.jc 2 rfl, HP.out.jc 3 rfl⟩ ?_
  try simp only [Act.put, List.getElem_toArray, List.getElem_cons_succ, List.getElem_cons_zero, List.setIfInBounds_toArray, List.set_cons_zero, List.set_cons_succ]
  refine' wpAnyH_take (i := 20) (v := .slice (some ⟨ga, 0, none⟩) 71 ca) rfl (by kernel_rfl) (by kernel_rfl) (by kernel_rfl) (fun _ _ _ h => h) (Or.inl ⟨by rfl, fun W h => by go_simp⟩) ⟨HP.out.blk.get 0, HP.out.jc 2 rfl, HP.out.jc 3 rfl⟩ ?_
  try simp only [Act.put, List.getElem_toArray, List.getElem_cons_succ, List.getElem_cons_zero, List.setIfInBounds_toArray, List.set_cons_zero, List.set_cons_succ]
  refine' wpAnyH_take (i := 21) (v := .bool (casR s.cells m 0 gv)) rfl (by kernel_rfl) (by kernel_rfl) (by kernel_rfl) (fun _ _ _ h => h) (Or.inl ⟨by rfl, fun W h => by go_simp⟩) ⟨HP.out.blk.get 0, HP.out.jc 2 rfl, HP.out.jc 3 rfl⟩ ?_
  try simp only [Act.put, List.getElem_toArray, List.getElem_cons_succ, List.getElem_cons_zero, List.setIfInBounds_toArray, List.set_cons_zero, List.set_cons_succ]
  refine wpAnyH_done (by kernel_rfl) ?_ _
  by_cases hz : z = 0
  · have HE := Lib.hid (HCA.out.1 hz)
    rw [HE.out.1] at HNC
    rw [HE.out.2]
    rw [HR.out] at HQ
    replace HQ := Lib.hid (HQ.out.trans (if_neg (fun h => h hz)))
    clear hz
    have p0 : X1.cell? ⟨g, 0, none⟩ = some (.slice (some ⟨cb, 0, none⟩) 71 cc) := HP.out.blk.get 0
    have f0 : X1.frozen? ⟨g, 0, none⟩ = false := HP.out.blk.frz 0
    obtain ⟨κ1, hp1, hm1⟩ := HNC.out
    have HT := Lib.hid (iFinish_any _ κ1 g b cap vt t _ r _ vl hp1 (show _ from hlen) 0)
    have HG := Lib.hid (HM0.out.trans hm1)
    clear hp1 hm1 HNC HCA HC HE
    go_wp2_with fail
    refine HT.out.mono ?_
    rintro e w2 ⟨rfl, κ2, vc2, vl2, hp2, hm2⟩
    go_wp2_with fail
    go_end0
    rw [HQ.out, HS.out]
    exact ⟨rfl, κ2, vc2, vl2, hp2, HG.out.trans hm2⟩
  · have HE := Lib.hid (HCA.out.2 hz)
    rw [HE.out.1] at HNC
    rw [HE.out.2]
    rw [HR.out] at HQ
    replace HQ := Lib.hid (HQ.out.trans (if_pos hz))
    clear hz
    have c6 : X1.cell? ⟨b, t * 18 + 6, none⟩ = some (.int .i64 (r : J).pc) := (HP.out).jc 6 rfl
    have f6 : X1.frozen? ⟨b, t * 18 + 6, none⟩ = false := (HP.out).jf _
    have h1 := (HP.out).fld 6 (by decide) (r' := { r with pc := 0 }) (.int .i64 (0)) rfl rfl
    have HF := Lib.hid (h1.1)
    have HG := Lib.hid ((HM.out).trans h1.2)
    clear h1
    clear HNC HCA HC HE
    go_wp2_with fail
    go_end0
    rw [HQ.out]
    exact ⟨rfl, κ, _, vl, HF.out, HG.out⟩
end Go.Proofs.YtnlepnfdgdbkoaaGreatDoor
