/-
  Texts of this seat, laid together.
-/
import Derived.Test.YtnlepnfdgdbkoaaGreatDoorYStepK
namespace Go.Proofs.YtnlepnfdgdbkoaaGreatDoor
open Go.RowKit M
set_option linter.unusedVariables false
set_option linter.unusedSimpArgs false
set_option maxRecDepth 100000 in
set_option maxHeartbeats 8000000 in
theorem iDrainCell_any (w : World) (κ : Nat → Nat) (g b cap : Nat) (vt : Value) (t : Nat) (s : S) (r : J) (vc vl : Value) (h : PJ w κ g b cap vt t s r vc vl) (hok : okC s.cells = true) (he : 0 ≤ r.e ∧ r.e ≤ 281474976710655) (hk : 0 ≤ r.k ∧ r.k ≤ 31) (hks : r.raw.length ≤ 1048576) :
    Calls Tryz.prog 91 #[.pointer (some ⟨g, 0, none⟩), .int .i64 (t : Int), .pointer (some ⟨b, t * 18, none⟩)] w (PX w κ g b cap vt t (putV' s (7 + r.e % 2 * 32 + r.k) 0, { r with raw := r.raw ++ [cellV' s (7 + r.e % 2 * 32 + r.k)], k := r.k + 1, pc := if r.k + 1 = 32 then 11 else r.pc })) := by
  obtain ⟨i0, hi0, hz0, hz1, hz2⟩ := info_parts info_int
  have hl := okC_len hok
  obtain ⟨cb, cc, rfl⟩ := h.vcs hl
  have ht4 : (t : Int) < 4 := by have := h.tl; omega
  obtain ⟨p, hp⟩ : ∃ p : S × J, p = (putV' s (7 + r.e % 2 * 32 + r.k) 0, { r with raw := r.raw ++ [cellV' s (7 + r.e % 2 * 32 + r.k)], k := r.k + 1, pc := if r.k + 1 = 32 then 11 else r.pc }) := ⟨_, rfl⟩
  rw [← hp]
  have HQ := Lib.hid hp
  clear hp
  have HP := Lib.hid h
  have HM := Lib.hid (Mv.refl κ w)
  have HBF := fun W => Lib.hid (iBufOf_any W r.e he.1 he.2)
  have HSB := fun W => Lib.hid (iBase_any (r.e % 2) 0 W)
  rw [cellV_yes (by omega) (by omega)] at HSB
  obtain ⟨m, hm, hm71⟩ : ∃ m : Nat, 7 + r.e % 2 * 32 + r.k = (m : Int) ∧ m < 71 := ⟨(7 + r.e % 2 * 32 + r.k).toNat, by omega, by omega⟩
  obtain ⟨q, hq⟩ : ∃ q : Int, 7 + r.e % 2 * 32 + 0 * 8 + 0 = q := ⟨_, rfl⟩
  have hqm : q + r.k = (m : Int) := by omega
  have hwm : IntKind.i64.wrap (q + r.k) = (m : Int) := by rw [IntKind.wrap_i64]; omega
  rw [hq] at HSB
  obtain ⟨z, hz⟩ : ∃ z, s.cells.getD m 0 = z := ⟨_, rfl⟩
  have HR := Lib.hid (show cellV' s (7 + r.e % 2 * 32 + r.k) = z ∧ putV' s (7 + r.e % 2 * 32 + r.k) 0 = { s with cells := s.cells.set m 0 } from ⟨by unfold cellV'; rw [hm, Int.toNat_natCast]; exact hz, by unfold putV'; rw [hm, Int.toNat_natCast]⟩)
  rw [HR.out.1, HR.out.2] at HQ
  have hso : storeOk s.cells (m : Int) 0 = true := by unfold storeOk; rw [atC_iff.2 ⟨hok, by omega, by omega⟩]; rfl
  have HE := Lib.hid (show storeC s.cells (m : Int) 0 = s.cells.set m 0 ∧ swapR s.cells (m : Int) 0 = z from ⟨by unfold storeC; rw [if_pos (by rw [atC_iff.2 ⟨hok, by omega, by omega⟩]; rfl), Int.toNat_natCast], by unfold swapR; rw [if_pos hso, Int.toNat_natCast]; exact hz⟩)
  have HC := fun W (hp : PJ W κ g b cap vt t s r (.slice (some ⟨cb, 0, none⟩) 71 cc) vl) => Lib.hid (iSwap_any W (.slice (some ⟨cb, 0, none⟩) 71 cc) s.cells m 0 (hp.ints hl) (by omega))
  have HLN := Lib.hid (show (storeC s.cells (m : Int) 0).length = 71 by rw [storeC_length]; exact hl)
  have k0 := hk.1
  have k1 := hk.2
  have hkw : IntKind.i64.wrap (r.k + 1) = r.k + 1 := by rw [IntKind.wrap_i64]; omega
  clear hz hm h HR hl hk hq hqm hso
  go_enter Tryz.func91, Tryz.ntmps91
  go_upto_region 0 with fail
  replace HP := Lib.hid (HP.out.below (below_drew _ _))
  replace HM := Lib.hid (HM.out.thn (below_drew _ _))
  refine wp_region_held_drew (S := fun X : World => X.cell? ⟨g, 0, none⟩ = some ((.slice (some ⟨cb, 0, none⟩) 71 cc)) ∧ X.cell? ⟨b, t * 18 + 10, none⟩ = some (.int .i64 r.e) ∧ X.cell? ⟨b, t * 18 + 7, none⟩ = some (.int .i64 r.k)) (by kernel_rfl) ⟨HP.out.blk.get 0, HP.out.jc 10 rfl, HP.out.jc 7 rfl⟩ (fun hHeld => ?_)
  clear hHeld
  generalize w.drew = X0 at *
  refine' wpAnyH_take (i := 0) (v := .pointer (some ⟨g, 0, none⟩)) rfl (by kernel_rfl) (by kernel_rfl) (by kernel_rfl) (fun _ _ _ h => h) (Or.inl ⟨by rfl, fun W h => by go_simp⟩) ⟨HP.out.blk.get 0, HP.out.jc 10 rfl, HP.out.jc 7 rfl⟩ ?_
  try simp only [Act.put, List.getElem_toArray, List.getElem_cons_succ, List.getElem_cons_zero, List.setIfInBounds_toArray, List.set_cons_zero, List.set_cons_succ]
  refine' wpAnyH_take (i := 1) (v := .pointer (some ⟨g, 0, none⟩)) rfl (by kernel_rfl) (by kernel_rfl) (by kernel_rfl) (fun _ _ _ h => h) (Or.inl ⟨by rfl, fun W h => by go_simp⟩) ⟨HP.out.blk.get 0, HP.out.jc 10 rfl, HP.out.jc 7 rfl⟩ ?_
  try simp only [Act.put, List.getElem_toArray, List.getElem_cons_succ, List.getElem_cons_zero, List.setIfInBounds_toArray, List.set_cons_zero, List.set_cons_succ]
  refine' wpAnyH_take (i := 2) (v := .pointer (some ⟨g, 0, none⟩)) rfl (by kernel_rfl) (by kernel_rfl) (by kernel_rfl) (fun _ _ _ h => h) (Or.inl ⟨by rfl, fun W h => by go_simp⟩) ⟨HP.out.blk.get 0, HP.out.jc 10 rfl, HP.out.jc 7 rfl⟩ ?_
  try simp only [Act.put, List.getElem_toArray, List.getElem_cons_succ, List.getElem_cons_zero, List.setIfInBounds_toArray, List.set_cons_zero, List.set_cons_succ]
  refine' wpAnyH_take (i := 3) (v := (.slice (some ⟨cb, 0, none⟩) 71 cc)) rfl (by kernel_rfl) (by kernel_rfl) (by kernel_rfl) (fun _ _ _ h => h) (Or.inl ⟨by rfl, fun W h => by have q : W.cell? ⟨g, 0, none⟩ = some ((.slice (some ⟨cb, 0, none⟩) 71 cc)) := h.1; go_simp⟩) ⟨HP.out.blk.get 0, HP.out.jc 10 rfl, HP.out.jc 7 rfl⟩ ?_
  try simp only [Act.put, List.getElem_toArray, List.getElem_cons_succ, List.getElem_cons_zero, List.setIfInBounds_toArray, List.set_cons_zero, List.set_cons_succ]
  refine' wpAnyH_take (i := 4) (v := .pointer (some ⟨b, t * 18, none⟩)) rfl (by kernel_rfl) (by kernel_rfl) (by kernel_rfl) (fun _ _ _ h => h) (Or.inl ⟨by rfl, fun W h => by go_simp⟩) ⟨HP.out.blk.get 0, HP.out.jc 10 rfl, HP.out.jc 7 rfl⟩ ?_
  try simp only [Act.put, List.getElem_toArray, List.getElem_cons_succ, List.getElem_cons_zero, List.setIfInBounds_toArray, List.set_cons_zero, List.set_cons_succ]
  refine' wpAnyH_take (i := 5) (v := .pointer (some ⟨b, t * 18, none⟩)) rfl (by kernel_rfl) (by kernel_rfl) (by kernel_rfl) (fun _ _ _ h => h) (Or.inl ⟨by rfl, fun W h => by go_simp⟩) ⟨HP.out.blk.get 0, HP.out.jc 10 rfl, HP.out.jc 7 rfl⟩ ?_
  try simp only [Act.put, List.getElem_toArray, List.getElem_cons_succ, List.getElem_cons_zero, List.setIfInBounds_toArray, List.set_cons_zero, List.set_cons_succ]
  refine' wpAnyH_take (i := 6) (v := .pointer (some ⟨b, t * 18 + 10, none⟩)) rfl (by kernel_rfl) (by kernel_rfl) (by kernel_rfl) (fun _ _ _ h => h) (Or.inl ⟨by rfl, fun W h => by go_simp⟩) ⟨HP.out.blk.get 0, HP.out.jc 10 rfl, HP.out.jc 7 rfl⟩ ?_
  try simp only [Act.put, List.getElem_toArray, List.getElem_cons_succ, List.getElem_cons_zero, List.setIfInBounds_toArray, List.set_cons_zero, List.set_cons_succ]
  refine' wpAnyH_take (i := 7) (v := .int .i64 r.e) rfl (by kernel_rfl) (by kernel_rfl) (by kernel_rfl) (fun _ _ _ h => h) (Or.inl ⟨by rfl, fun W h => by have q : W.cell? ⟨b, t * 18 + 10, none⟩ = some (.int .i64 r.e) := h.2.1; go_simp⟩) ⟨HP.out.blk.get 0, HP.out.jc 10 rfl, HP.out.jc 7 rfl⟩ ?_
  try simp only [Act.put, List.getElem_toArray, List.getElem_cons_succ, List.getElem_cons_zero, List.setIfInBounds_toArray, List.set_cons_zero, List.set_cons_succ]
  refine' wpAnyH_take (i := 10) (v := .pointer (some ⟨b, t * 18, none⟩)) rfl (by kernel_rfl) (by kernel_rfl) (by kernel_rfl) (fun _ _ _ h => h) (Or.inl ⟨by rfl, fun W h => by go_simp⟩) ⟨HP.out.blk.get 0, HP.out.jc 10 rfl, HP.out.jc 7 rfl⟩ ?_
  try simp only [Act.put, List.getElem_toArray, List.getElem_cons_succ, List.getElem_cons_zero, List.setIfInBounds_toArray, List.set_cons_zero, List.set_cons_succ]
  refine' wpAnyH_take (i := 11) (v := .pointer (some ⟨b, t * 18, none⟩)) rfl (by kernel_rfl) (by kernel_rfl) (by kernel_rfl) (fun _ _ _ h => h) (Or.inl ⟨by rfl, fun W h => by go_simp⟩) ⟨HP.out.blk.get 0, HP.out.jc 10 rfl, HP.out.jc 7 rfl⟩ ?_
  try simp only [Act.put, List.getElem_toArray, List.getElem_cons_succ, List.getElem_cons_zero, List.setIfInBounds_toArray, List.set_cons_zero, List.set_cons_succ]
  refine' wpAnyH_take (i := 12) (v := .pointer (some ⟨b, t * 18 + 7, none⟩)) rfl (by kernel_rfl) (by kernel_rfl) (by kernel_rfl) (fun _ _ _ h => h) (Or.inl ⟨by rfl, fun W h => by go_simp⟩) ⟨HP.out.blk.get 0, HP.out.jc 10 rfl, HP.out.jc 7 rfl⟩ ?_
  try simp only [Act.put, List.getElem_toArray, List.getElem_cons_succ, List.getElem_cons_zero, List.setIfInBounds_toArray, List.set_cons_zero, List.set_cons_succ]
  refine' wpAnyH_take (i := 13) (v := .int .i64 r.k) rfl (by kernel_rfl) (by kernel_rfl) (by kernel_rfl) (fun _ _ _ h => h) (Or.inl ⟨by rfl, fun W h => by have q : W.cell? ⟨b, t * 18 + 7, none⟩ = some (.int .i64 r.k) := h.2.2; go_simp⟩) ⟨HP.out.blk.get 0, HP.out.jc 10 rfl, HP.out.jc 7 rfl⟩ ?_
  try simp only [Act.put, List.getElem_toArray, List.getElem_cons_succ, List.getElem_cons_zero, List.setIfInBounds_toArray, List.set_cons_zero, List.set_cons_succ]
  refine wpAnyH_ready (rs := [8]) (by kernel_rfl) (by simp) ?_
  refine AllReadyH.cons rfl (fun K hK => ?_) AllReadyH.nil
  go_simp
  refine (HBF _).out.mono ?_
  rintro e W9 ⟨rfl, rfl⟩
  refine hK.out _ _ ⟨HP.out.blk.get 0, HP.out.jc 10 rfl, HP.out.jc 7 rfl⟩ (fun hHeld => ?_)
  clear hK K hHeld
  try simp only [Act.put, List.getElem_toArray, List.getElem_cons_succ, List.getElem_cons_zero, List.setIfInBounds_toArray, List.set_cons_zero, List.set_cons_succ]
  refine wpAnyH_ready (rs := [9]) (by kernel_rfl) (by simp) ?_
  refine AllReadyH.cons rfl (fun K hK => ?_) AllReadyH.nil
  go_simp
  refine (HSB _).out.mono ?_
  rintro e W9 ⟨rfl, rfl⟩
  refine hK.out _ _ ⟨HP.out.blk.get 0, HP.out.jc 10 rfl, HP.out.jc 7 rfl⟩ (fun hHeld => ?_)
  clear hK K hHeld
  try simp only [Act.put, List.getElem_toArray, List.getElem_cons_succ, List.getElem_cons_zero, List.setIfInBounds_toArray, List.set_cons_zero, List.set_cons_succ]
  refine' wpAnyH_take (i := 14) (v := .int .i64 (m : Int)) rfl (by kernel_rfl) (by kernel_rfl) (by kernel_rfl) (fun _ _ _ h => h) (Or.inl ⟨by rfl, fun W h => by go_simp⟩) ⟨HP.out.blk.get 0, HP.out.jc 10 rfl, HP.out.jc 7 rfl⟩ ?_
  try simp only [Act.put, List.getElem_toArray, List.getElem_cons_succ, List.getElem_cons_zero, List.setIfInBounds_toArray, List.set_cons_zero, List.set_cons_succ]
  refine wpAnyH_ready (rs := [15]) (by kernel_rfl) (by simp) ?_
  refine AllReadyH.cons rfl (fun K hK => ?_) AllReadyH.nil
  go_simp
  refine ((HC _ HP.out).out).mono ?_
  rintro e X1 ⟨vq, rfl, ho, hb⟩
  obtain ⟨ga, ca, rfl⟩ := ho.2
  have HNC := Lib.hid (HP.out.newCells hb ho.1)
  rw [HLN.out] at HNC ⊢
  have HM0 := Lib.hid HM.out
  replace HM := Lib.hid (HM.out.thn (hb.mono HM.out.size))
  replace HP := Lib.hid (HP.out.below hb)
  refine hK.out _ _ ⟨HP.out.blk.get 0, HP.out.jc 10 rfl, HP.out.jc 7 rfl⟩ (fun hHeld => ?_)
  clear hK K hHeld ho hb
  try simp only [Act.put, List.getElem_toArray, List.getElem_cons_succ, List.getElem_cons_zero, List.setIfInBounds_toArray, List.set_cons_zero, List.set_cons_succ]
  refine' wpAnyH_take (i := 16) (v := .tuple #[.slice (some ⟨ga, 0, none⟩) 71 ca, .int .i64 (swapR s.cells (m : Int) 0)]) rfl (by kernel_rfl) (by kernel_rfl) (by kernel_rfl) (fun _ _ _ h => h) (Or.inl ⟨by rfl, fun W h => by go_simp⟩) ⟨HP.out.blk.get 0, HP.out.jc 10 rfl, HP.out.jc 7 rfl⟩ ?_
  try simp only [Act.put, List.getElem_toArray, List.getElem_cons_succ, List.getElem_cons_zero, List.setIfInBounds_toArray, List.set_cons_zero, List.set_cons_succ]
  refine' wpAnyH_take (i := 17) (v := .slice (some ⟨ga, 0, none⟩) 71 ca) rfl (by kernel_rfl) (by kernel_rfl) (by kernel_rfl) (fun _ _ _ h => h) (Or.inl ⟨by rfl, fun W h => by go_simp⟩) ⟨HP.out.blk.get 0, HP.out.jc 10 rfl, HP.out.jc 7 rfl⟩ ?_
  try simp only [Act.put, List.getElem_toArray, List.getElem_cons_succ, List.getElem_cons_zero, List.setIfInBounds_toArray, List.set_cons_zero, List.set_cons_succ]
  refine' wpAnyH_take (i := 18) (v := .int .i64 (swapR s.cells (m : Int) 0)) rfl (by kernel_rfl) (by kernel_rfl) (by kernel_rfl) (fun _ _ _ h => h) (Or.inl ⟨by rfl, fun W h => by go_simp⟩) ⟨HP.out.blk.get 0, HP.out.jc 10 rfl, HP.out.jc 7 rfl⟩ ?_
  try simp only [Act.put, List.getElem_toArray, List.getElem_cons_succ, List.getElem_cons_zero, List.setIfInBounds_toArray, List.set_cons_zero, List.set_cons_succ]
  refine' wpAnyH_take (i := 19) (v := .slice (some ⟨ga, 0, none⟩) 71 ca) rfl (by kernel_rfl) (by kernel_rfl) (by kernel_rfl) (fun _ _ _ h => h) (Or.inl ⟨by rfl, fun W h => by go_simp⟩) ⟨HP.out.blk.get 0, HP.out.jc 10 rfl, HP.out.jc 7 rfl⟩ ?_
  try simp only [Act.put, List.getElem_toArray, List.getElem_cons_succ, List.getElem_cons_zero, List.setIfInBounds_toArray, List.set_cons_zero, List.set_cons_succ]
  refine' wpAnyH_take (i := 20) (v := .int .i64 (swapR s.cells (m : Int) 0)) rfl (by kernel_rfl) (by kernel_rfl) (by kernel_rfl) (fun _ _ _ h => h) (Or.inl ⟨by rfl, fun W h => by go_simp⟩) ⟨HP.out.blk.get 0, HP.out.jc 10 rfl, HP.out.jc 7 rfl⟩ ?_
  try simp only [Act.put, List.getElem_toArray, List.getElem_cons_succ, List.getElem_cons_zero, List.setIfInBounds_toArray, List.set_cons_zero, List.set_cons_succ]
  refine wpAnyH_done (by kernel_rfl) ?_ _
  rw [HE.out.1] at HNC
  rw [HE.out.2]
  have p0 : X1.cell? ⟨g, 0, none⟩ = some (.slice (some ⟨cb, 0, none⟩) 71 cc) := HP.out.blk.get 0
  have f0 : X1.frozen? ⟨g, 0, none⟩ = false := HP.out.blk.frz 0
  clear hwm
  go_upto_region 2 with fail
  obtain ⟨κ1, hp1, hm1⟩ := HNC.out
  refine wp_gen (fun X => PJ X κ1 g b cap vt t { s with cells := s.cells.set m 0 } r (.slice (some ⟨ga, 0, none⟩) 71 ca) vl ∧ Mv κ κ1 w X) ⟨hp1, HM0.out.trans hm1⟩ ?_
  clear HNC HE HC HP HM HM0 hp1 hm1 p0 f0
  rintro X ⟨hp, hm⟩
  have HP := Lib.hid hp
  have HM := Lib.hid hm
  clear hp hm
  obtain ⟨vk, vr, hrg, hvk, hvr, _⟩ := HP.out.cells
  have c17 : X.cell? ⟨b, t * 18 + 17, none⟩ = some vr := hrg 17 vr rfl
  have HRK := Lib.hid c17
  obtain ⟨Ar, cr, rfl⟩ := Rw.slice (show (⟨vr, 3, 1, r.raw.length, r.raw.map (Value.int .i64)⟩ : Rw).own X 0 from hvr)
  clear hrg hvk
  have hb := below_oneL X (.cells #[.int .i64 z] 3)
  have HNW := Lib.hid (Blk.new X X.heap.size 3 #[.int .i64 z] rfl)
  have hsz1 : (X.alloc (.cells #[.int .i64 z] 3)).heap.size = X.heap.size + 1 := by simp [go_sem]
  have HRK1 := Lib.hid ((hb.cell (p := ⟨b, t * 18 + 17, none⟩) (cell_lt c17)).trans c17)
  have HOK := Lib.hid (World.ownsRow.alloc hvr (.cells #[.int .i64 z] 3))
  have HM1 := Lib.hid (HM.out.thn (hb.mono HM.out.size))
  have HP1 := Lib.hid (HP.out.below hb)
  clear hb hvr HM HP HRK
  go_upto_region 3 with (at_builtin; refine wpList_append_own_at _ rfl _ _ 25 rfl 0 3 i0 (.int .i64 0) 1 8 Tryz.underlying25 hi0 hz0 hz1 hz2 rfl (by decide) (.slice Ar r.raw.length cr) r.raw.length (r.raw.map (Value.int .i64)) rfl HOK.out ⟨X.heap.size, 0, none⟩ 1 1 [.int .i64 z] rfl ?qd1 ?qd2 ?qd3 ?qd4 ?qd5 ?qd6 ?_)
  case qd1 => rfl
  case qd2 => intro k u hk; rw [Addr.add_lit, Nat.zero_add, HNW.out.get k]; simpa using hk
  case qd3 => intro u hu; rw [List.mem_singleton.1 hu]; rfl
  case qd4 => unfold maxLen; omega
  case qd5 => omega
  case qd6 => exact Nat.zero_le _
  intro v' X2 hown hgrow hnil hblk
  have hmid := HP1.out.mid 17 (by decide) rfl HRK1.out hgrow
  have hmap : r.raw.map (Value.int .i64) ++ [.int .i64 z] = (r.raw ++ [z]).map (Value.int .i64) := by simp
  rw [hmap] at hown
  have hlk2 : (r.raw ++ [z]).length = r.raw.length + 1 := by simp
  rw [← hlk2] at hown
  obtain ⟨Av, cv, rfl⟩ := Rw.slice (show (⟨v', 3, 1, (r.raw ++ [z]).length, (r.raw ++ [z]).map (Value.int .i64)⟩ : Rw).own X2 0 from hown)
  have HN := Lib.hid (HP1.out.grow 17 (by decide) (r' := { r with raw := r.raw ++ [z] }) rfl HRK1.out rfl hgrow hown (by rcases hblk with h | h; exact .inl h; exact .inr (fun k hk => by have e := Option.some.inj (h.symm.trans hk); omega)))
  rw [hlk2] at HN ⊢
  have q17 : X2.cell? ⟨b, t * 18 + 17, none⟩ = some (.slice Ar r.raw.length cr) := (hmid.2.1 17 (by decide)).trans HRK1.out
  have f17 : X2.frozen? ⟨b, t * 18 + 17, none⟩ = false := hmid.2.2.1 _
  clear hown hgrow hblk hnil hmid hmap hlk2 HOK HRK1 HNW hsz1 c17
  go_upto_region 3 with fail
  obtain ⟨κ2, hp2, hm2⟩ := HN.out
  refine wp_gen (fun X => PJ X κ2 g b cap vt t { s with cells := s.cells.set m 0 } { r with raw := r.raw ++ [z] } (.slice (some ⟨ga, 0, none⟩) 71 ca) vl ∧ Mv κ κ2 w X) ⟨hp2, HM1.out.trans hm2⟩ ?_
  clear HN hp2 hm2 HP1 HM1 q17 f17
  rintro X ⟨hp, hm⟩
  have HP := Lib.hid hp
  have HM := Lib.hid hm
  clear hp hm
  have c7 : X.cell? ⟨b, t * 18 + 7, none⟩ = some (.int .i64 r.k) := HP.out.jc 7 rfl
  have f7 : X.frozen? ⟨b, t * 18 + 7, none⟩ = false := HP.out.jf _
  have c6 : X.cell? ⟨b, t * 18 + 6, none⟩ = some (.int .i64 r.pc) := HP.out.jc 6 rfl
  have f6 : X.frozen? ⟨b, t * 18 + 6, none⟩ = false := HP.out.jf _
  have h1 := HP.out.fld 7 (by decide) (r' := { r with raw := r.raw ++ [z], k := r.k + 1 }) (.int .i64 (r.k + 1)) rfl rfl
  by_cases h4 : r.k + 1 = 32
  · have d4 : (r.k + 1 == 32) = true := by rw [beq_iff_eq]; exact h4
    replace HQ := Lib.hid (HQ.out.trans (by rw [if_pos h4]))
    clear h4
    have h5 := (h1.1).fld 6 (by decide) (r' := { r with raw := r.raw ++ [z], k := r.k + 1, pc := 11 }) (.int .i64 (11)) rfl rfl
    have HF := Lib.hid h5.1
    have HG := Lib.hid ((HM.out.trans h1.2).trans h5.2)
    clear h1 HP HM h5
    go_wp2_with fail
    go_end0
    rw [HQ.out]
    exact ⟨rfl, κ2, _, vl, HF.out, HG.out⟩
  · have d4 : (r.k + 1 == 32) = false := by rw [beq_eq_false_iff_ne]; exact h4
    replace HQ := Lib.hid (HQ.out.trans (by rw [if_neg h4]))
    clear h4
    have HF := Lib.hid h1.1
    have HG := Lib.hid (HM.out.trans h1.2)
    clear h1 HP HM
    go_wp2_with fail
    go_end0
    rw [HQ.out]
    exact ⟨rfl, κ2, _, vl, HF.out, HG.out⟩
end Go.Proofs.YtnlepnfdgdbkoaaGreatDoor
