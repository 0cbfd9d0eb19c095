/-
  Texts of this seat, laid together.
-/
import Derived.Test.YtnlepnfdgdbkoaaGreatDoorYStepC
import Derived.Test.YtnlepnfdgdbkoaaGreatDoorYMd
import Derived.Test.YtnlepnfdgdbkoaaGreatDoorYZa
import Derived.Test.YtnlepnfdgdbkoaaGreatDoorYZb
namespace Go.Proofs.YtnlepnfdgdbkoaaGreatDoor
open Go.RowKit M
set_option linter.unusedVariables false
set_option linter.unusedSimpArgs false
section
variable {w : World} {κ : Nat → Nat} {g b cap : Nat} {vt : Value} {t : Nat} {s : S} {r : J} {vc vl : Value}
theorem PJ.jc (h : PJ w κ g b cap vt t s r vc vl) (o : Nat) {v : Value} (hv : (jobDat r)[o]? = some (.val v)) : w.cell? ⟨b, t * 18 + o, none⟩ = some v := by
  obtain ⟨vk, vr, hrg, _⟩ := h.cells
  exact hrg o v (valsD_val (jobVals_ok r vk vr) hv)
theorem PJ.jf (h : PJ w κ g b cap vt t s r vc vl) (o : Nat) : w.frozen? ⟨b, o, none⟩ = false := by
  obtain ⟨vk, vr, _, _, _, hfz, _⟩ := h.cells
  exact hfz o
theorem PJ.cc {cb n cc : Nat} (h : PJ w κ g b cap vt t s r (.slice (some ⟨cb, 0, none⟩) n cc) vl) (hn : s.cells.length = 71) (k : Nat) (hk : k < 71) : w.cell? ⟨cb, k, none⟩ = some (.int .i64 (s.cells.getD k 0)) := by
  obtain ⟨b', cap', e, _, _, _, h4, _⟩ := h.wt.cells hn
  injection e with e1 e2 e3
  injection e1 with e1
  injection e1 with e1
  subst e1
  exact h4 k hk
theorem PJ.vcs (h : PJ w κ g b cap vt t s r vc vl) (hn : s.cells.length = 71) : ∃ cb cc, vc = .slice (some ⟨cb, 0, none⟩) 71 cc := by
  obtain ⟨b', cap', e, _⟩ := h.wt.cells hn
  exact ⟨b', cap', e⟩
theorem PJ.cset {cb cc : Nat} (h : PJ w κ g b cap vt t s r (.slice (some ⟨cb, 0, none⟩) 71 cc) vl) (hn : s.cells.length = 71) (k : Nat) (hk : k < 71) (v : Int) :
    PJ (w.setCell ⟨cb, k, none⟩ (.int .i64 v)) κ g b cap vt t { s with cells := s.cells.set k v } r (.slice (some ⟨cb, 0, none⟩) 71 cc) vl ∧ Mv κ κ w (w.setCell ⟨cb, k, none⟩ (.int .i64 v)) := by
  have hs := WT.cellSet h.wt hn k v (by show k < s.cells.length; omega)
  have hk1 : κ cb = 1 := h.wt.t.c.2 _ List.mem_cons_self cb rfl
  exact ⟨⟨h.blk.far _ _ _ (fun e => by have := h.six; rw [e] at this; omega), hs.1, h.six, h.jl, h.tl⟩, hs.2⟩
theorem PJ.cf {cb n cc : Nat} (h : PJ w κ g b cap vt t s r (.slice (some ⟨cb, 0, none⟩) n cc) vl) (hn : s.cells.length = 71) (k : Nat) : w.frozen? ⟨cb, k, none⟩ = false := by
  obtain ⟨b', cap', e, _, _, _, _, h5⟩ := h.wt.cells hn
  injection e with e1 e2 e3
  injection e1 with e1
  injection e1 with e1
  subst e1
  exact h5 k
theorem untT_pair (n : Int) : untT (untagV n) = .tuple #[.string (tagKey n), .int .i64 (tagKind n)] := by
  unfold tagKey tagKind
  cases untagV n <;> rfl
theorem jobCell_nat {r : J} (hs : 0 ≤ r.slot ∧ r.slot ≤ 3) (k : Int) (hk : 0 ≤ k ∧ k ≤ 7) : ∃ m : Nat, jobCell r k = (m : Int) ∧ m < 71 := by
  unfold jobCell
  exact ⟨(7 + r.e % 2 * 32 + r.slot * 8 + k).toNat, by omega, by omega⟩
theorem cellV_job {r : J} (hs : 0 ≤ r.slot ∧ r.slot ≤ 3) (k : Int) : cellV (r.e % 2) r.slot k = jobCell r k := by
  rw [cellV_yes (by omega) hs]; rfl
end
end Go.Proofs.YtnlepnfdgdbkoaaGreatDoor
namespace Go.Proofs.YtnlepnfdgdbkoaaGreatDoor
open Go.RowKit M
set_option linter.unusedVariables false
set_option linter.unusedSimpArgs false
set_option maxRecDepth 100000 in
set_option maxHeartbeats 1600000 in
theorem iRecheck_any (w : World) (κ : Nat → Nat) (g b cap : Nat) (vt : Value) (t : Nat) (s : S) (r : J) (vc vl : Value) (h : PJ w κ g b cap vt t s r vc vl) (hok : okC s.cells = true) :
    Calls Tryz.prog 80 #[.pointer (some ⟨g, 0, none⟩), .int .i64 (t : Int), .pointer (some ⟨b, t * 18, none⟩)] w (PX w κ g b cap vt t (s, { r with pc := if cellV' s 0 = r.e then 5 else 10 })) := by
  obtain ⟨vk, vr, hrg, hvk, hvr, hfz, hb2, hk1, hk2⟩ := h.cells
  have ht4 : (t : Int) < 4 := by have := h.tl; omega
  obtain ⟨cb, cc, rfl, hc71, hcm, hcb, hcc, hcf⟩ := h.wt.cells (okC_len hok)
  have p0 : w.cell? ⟨g, 0, none⟩ = some (.slice (some ⟨cb, 0, none⟩) 71 cc) := h.blk.get 0
  have c10 : w.cell? ⟨b, t * 18 + 10, none⟩ = some (.int .i64 r.e) := hrg 10 _ rfl
  have c6 : w.cell? ⟨b, t * 18 + 6, none⟩ = some (.int .i64 r.pc) := hrg 6 _ rfl
  have f6 : w.frozen? ⟨b, t * 18 + 6, none⟩ = false := hfz _
  have ce := hcc 0 (by decide)
  have HP := Lib.hid h
  have HM := Lib.hid (Mv.refl κ w)
  clear h hcc hcf hrg hvk hvr hfz hk1 hk2
  have hed : ∃ z, s.cells.getD 0 0 = z := ⟨_, rfl⟩
  obtain ⟨z, hz⟩ := hed
  rw [hz] at ce
  have HR := Lib.hid (show cellV' s 0 = z from hz)
  clear hz
  obtain ⟨p, hp⟩ : ∃ p : S × J, p = (s, { r with pc := if cellV' s 0 = r.e then 5 else 10 }) := ⟨_, rfl⟩
  rw [← hp]
  have HQ := Lib.hid hp
  clear hp
  go_enter Tryz.func80, Tryz.ntmps80
  go_wp2_with fail
  have HSD := Lib.hid (show w.drew.cell? ⟨g, 0, none⟩ = some ((.slice (some ⟨cb, 0, none⟩) 71 cc)) ∧ w.drew.cell? ⟨cb, 0, none⟩ = some (.int .i64 z) ∧ w.drew.cell? ⟨b, t * 18 + 10, none⟩ = some (.int .i64 r.e) ∧ PJ w.drew κ g b cap vt t s r (.slice (some ⟨cb, 0, none⟩) 71 cc) vl ∧ Mv κ κ w w.drew from ⟨p0, ce, c10, (HP.out).below (below_drew _ _), (HM.out).thn (below_drew _ _)⟩)
  have HCL := (⟨HSD.out⟩ : HoldsC (fun W => W.cell? ⟨g, 0, none⟩ = some ((.slice (some ⟨cb, 0, none⟩) 71 cc)) ∧ W.cell? ⟨cb, 0, none⟩ = some (.int .i64 z) ∧ W.cell? ⟨b, t * 18 + 10, none⟩ = some (.int .i64 r.e) ∧ PJ W κ g b cap vt t s r (.slice (some ⟨cb, 0, none⟩) 71 cc) vl ∧ Mv κ κ w W) _)
  have hall : ∀ p : Prop, (∀ W, HoldsC (fun W => W.cell? ⟨g, 0, none⟩ = some ((.slice (some ⟨cb, 0, none⟩) 71 cc)) ∧ W.cell? ⟨cb, 0, none⟩ = some (.int .i64 z) ∧ W.cell? ⟨b, t * 18 + 10, none⟩ = some (.int .i64 r.e) ∧ PJ W κ g b cap vt t s r (.slice (some ⟨cb, 0, none⟩) 71 cc) vl ∧ Mv κ κ w W) W → p) ↔ p := fun p => ⟨fun h => h _ HCL, fun h _ _ => h⟩
  refine wp_region_wq (C := HoldsC (fun W => W.cell? ⟨g, 0, none⟩ = some ((.slice (some ⟨cb, 0, none⟩) 71 cc)) ∧ W.cell? ⟨cb, 0, none⟩ = some (.int .i64 z) ∧ W.cell? ⟨b, t * 18 + 10, none⟩ = some (.int .i64 r.e) ∧ PJ W κ g b cap vt t s r (.slice (some ⟨cb, 0, none⟩) 71 cc) vl ∧ Mv κ κ w W)) (by kernel_rfl) (by kernel_rfl) HCL ?_
  repeat (refine WQ.step (fun K hK => ?_); go_simp; first | (refine hK _ ?_; clear hK K) | (apply Exists.intro; refine ⟨fun W hW => ?_, hK _ ?_⟩; (focus (first | exact rfl | (obtain ⟨p0, ce, c10, hpq, hmq⟩ := hW.out; go_simp; rfl))); clear hK K))
  refine WQ.nil ?_
  intro W hW
  obtain ⟨p0, ce, c10, hpq, hmq⟩ := hW.out
  clear hall HCL
  have HP := Lib.hid hpq
  have HM := Lib.hid hmq
  clear hpq hmq hW HSD
  clear c6 f6
  by_cases hz : z = r.e
  · have d1 : (z == r.e) = true := by rw [beq_iff_eq]; exact hz
    rw [HR.out, if_pos hz] at HQ
    clear hz
    obtain ⟨vk, vr, hrg, hvk, hvr, hfz, hb2, hk1, hk2⟩ := HP.out.cells
    have c6 : W.cell? ⟨b, t * 18 + 6, none⟩ = some (.int .i64 r.pc) := hrg 6 _ rfl
    have f6 : W.frozen? ⟨b, t * 18 + 6, none⟩ = false := hfz _
    have h5 := HP.out.fld 6 (by decide) (r' := { r with pc := 5 }) (.int .i64 5) rfl rfl
    have HF := Lib.hid h5.1
    have HG := Lib.hid (HM.out.trans h5.2)
    clear h5 HP HM hrg hvk hvr hfz hk1 hk2
    go_wp2_with fail
    go_end0
    rw [HQ.out]
    exact ⟨rfl, κ, _, vl, HF.out, HG.out⟩
  · have d1 : (z == r.e) = false := by rw [beq_eq_false_iff_ne]; exact hz
    rw [HR.out, if_neg hz] at HQ
    clear hz
    obtain ⟨vk, vr, hrg, hvk, hvr, hfz, hb2, hk1, hk2⟩ := HP.out.cells
    have c6 : W.cell? ⟨b, t * 18 + 6, none⟩ = some (.int .i64 r.pc) := hrg 6 _ rfl
    have f6 : W.frozen? ⟨b, t * 18 + 6, none⟩ = false := hfz _
    have h5 := HP.out.fld 6 (by decide) (r' := { r with pc := 10 }) (.int .i64 10) rfl rfl
    have HF := Lib.hid h5.1
    have HG := Lib.hid (HM.out.trans h5.2)
    clear h5 HP HM hrg hvk hvr hfz hk1 hk2
    go_wp2_with fail
    go_end0
    rw [HQ.out]
    exact ⟨rfl, κ, _, vl, HF.out, HG.out⟩
end Go.Proofs.YtnlepnfdgdbkoaaGreatDoor
