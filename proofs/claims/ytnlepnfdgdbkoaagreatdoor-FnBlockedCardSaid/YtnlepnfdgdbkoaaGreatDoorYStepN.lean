/-
  Texts of this seat, laid together.
-/
import Derived.Test.YtnlepnfdgdbkoaaGreatDoorYStepM
import Derived.Test.YtnlepnfdgdbkoaaGreatDoorYZf
namespace Go.Proofs.YtnlepnfdgdbkoaaGreatDoor
open Go.RowKit M
set_option linter.unusedVariables false
set_option linter.unusedSimpArgs false
theorem PJ.there {w : World} {κ : Nat → Nat} {g b cap : Nat} {vt : Value} {t : Nat} {s : S} {r : J} {vc vl : Value} (h : PJ w κ g b cap vt t s r vc vl) : w.there b (t * 18) 18 := by
  have hj := h.wt.t.j.x
  have hl : ({ s with jobs := s.jobs.set t r } : S).jobs.length = 4 := h.jl'
  rw [hl] at hj
  exact OwnX.there hj (by have := h.tl; omega)
theorem PJ.put {w : World} {κ : Nat → Nat} {g b cap : Nat} {vt : Value} {t : Nat} {s : S} {r : J} {vc vl : Value} (h : PJ w κ g b cap vt t s r vc vl) (r' : J) (vk vr : Value)
    (hk : Inn w κ ⟨b, t * 18 + 16, none⟩ vk r.keys r'.keys) (hr : Inn w κ ⟨b, t * 18 + 17, none⟩ vr r.raw r'.raw) (hkr : ∀ k, κ k = 0 → vk.ownBlock = some k → vr.ownBlock ≠ some k) :
    ∃ κ', PJ (w.setCells b (t * 18) (jobVals r' vk vr).toList) κ' g b cap vt t s r' vc vl ∧ MvR (fun k => κ k = 0 ∧ (vk.ownBlock = some k ∨ vr.ownBlock = some k)) κ κ' w (w.setCells b (t * 18) (jobVals r' vk vr).toList) := by
  have hj : ({ s with jobs := s.jobs.set t r } : S).jobs.getD t zeroJ = r := h.job
  obtain ⟨κ', h1, h2, h3⟩ := WT.jobPut h.wt h.jl' t h.tl r' vk vr (by rw [hj]; exact hk) (by rw [hj]; exact hr) hkr
  have e : (s.jobs.set t r).set t r' = s.jobs.set t r' := List.set_set ..
  refine ⟨κ', ⟨h.mv_blk h3 (fun k hk => .inl (by have : κ k = 2 := hk; omega)), ?_, by rw [h2.old g h.blk.lt (fun hr => by have := hr.1; have := h.six; omega)]; exact h.six, h.jl, h.tl⟩, h2⟩
  simp only [e] at h1
  exact h1
set_option maxRecDepth 100000 in
set_option maxHeartbeats 8000000 in
theorem iTell_any (w : World) (κ : Nat → Nat) (g b cap : Nat) (vt : Value) (t : Nat) (s : S) (r : J) (vc vl : Value) (h : PJ w κ g b cap vt t s r vc vl) (hlen : s.log.length ≤ 1048576) (hfk : Fit r.keys) (hfr : Fit r.raw) (hk4 : r.keys.length ≤ 4) (hr32 : r.raw.length ≤ 1048576) :
    Calls Tryz.prog 87 #[.pointer (some ⟨g, 0, none⟩), .int .i64 (t : Int), .pointer (some ⟨b, t * 18, none⟩)] w (PX w κ g b cap vt t (tellS s t r)) := by
  have hulj := Tryz.underlying50
  have ht4 : (t : Int) < 4 := by have := h.tl; omega
  have HP := Lib.hid h
  have HM := Lib.hid (Mv.refl κ w)
  have HSZ := Lib.hid (show ∀ k, κ k ≠ 0 → k < w.heap.size from h.wt.lt)
  clear h
  go_enter Tryz.func87, Tryz.ntmps87
  go_upto_region 0 with fail
  replace HP := Lib.hid (HP.out.below (below_drew _ _))
  replace HM := Lib.hid (HM.out.thn (below_drew _ _))
  refine wp_region_held_drew (S := fun X : World => X.cell? ⟨b, t * 18 + 15, none⟩ = some (.int .i64 r.code) ∧ X.cell? ⟨b, t * 18 + 14, none⟩ = some (.int .i64 r.steps) ∧ X.cell? ⟨b, t * 18 + 13, none⟩ = some (.int .i64 r.flips)) (by kernel_rfl) ⟨HP.out.jc 15 rfl, HP.out.jc 14 rfl, HP.out.jc 13 rfl⟩ (fun hHeld => ?_)
  clear hHeld
  generalize w.drew = X0 at *
  obtain ⟨vk, vr, hrg, hvk, hvr, _⟩ := HP.out.cells
  have q16 : X0.cell? ⟨b, t * 18 + 16, none⟩ = some vk := hrg 16 vk rfl
  have q17 : X0.cell? ⟨b, t * 18 + 17, none⟩ = some vr := hrg 17 vr rfl
  have HCR := Lib.hid (iCollected_any X0 r vk vr (own_ints hvk) (own_ints hvr) hfk hfr hk4 hr32)
  have HQ6 := Lib.hid q16
  have HQ7 := Lib.hid q17
  clear hrg hvk hvr q16 q17
  refine' wpAnyH_take (i := 0) (v := .pointer (some ⟨g, 0, none⟩)) rfl (by kernel_rfl) (by kernel_rfl) (by kernel_rfl) (fun _ _ _ h => h) (Or.inl ⟨by rfl, fun W h => by go_simp⟩) ⟨HP.out.jc 15 rfl, HP.out.jc 14 rfl, HP.out.jc 13 rfl⟩ ?_
  try simp only [Act.put, List.getElem_toArray, List.getElem_cons_succ, List.getElem_cons_zero, List.setIfInBounds_toArray, List.set_cons_zero, List.set_cons_succ]
  refine' wpAnyH_take (i := 1) (v := .int .i64 (t : Int)) rfl (by kernel_rfl) (by kernel_rfl) (by kernel_rfl) (fun _ _ _ h => h) (Or.inl ⟨by rfl, fun W h => by go_simp⟩) ⟨HP.out.jc 15 rfl, HP.out.jc 14 rfl, HP.out.jc 13 rfl⟩ ?_
  try simp only [Act.put, List.getElem_toArray, List.getElem_cons_succ, List.getElem_cons_zero, List.setIfInBounds_toArray, List.set_cons_zero, List.set_cons_succ]
  refine' wpAnyH_take (i := 2) (v := .pointer (some ⟨b, t * 18, none⟩)) rfl (by kernel_rfl) (by kernel_rfl) (by kernel_rfl) (fun _ _ _ h => h) (Or.inl ⟨by rfl, fun W h => by go_simp⟩) ⟨HP.out.jc 15 rfl, HP.out.jc 14 rfl, HP.out.jc 13 rfl⟩ ?_
  try simp only [Act.put, List.getElem_toArray, List.getElem_cons_succ, List.getElem_cons_zero, List.setIfInBounds_toArray, List.set_cons_zero, List.set_cons_succ]
  refine' wpAnyH_take (i := 3) (v := .pointer (some ⟨b, t * 18, none⟩)) rfl (by kernel_rfl) (by kernel_rfl) (by kernel_rfl) (fun _ _ _ h => h) (Or.inl ⟨by rfl, fun W h => by go_simp⟩) ⟨HP.out.jc 15 rfl, HP.out.jc 14 rfl, HP.out.jc 13 rfl⟩ ?_
  try simp only [Act.put, List.getElem_toArray, List.getElem_cons_succ, List.getElem_cons_zero, List.setIfInBounds_toArray, List.set_cons_zero, List.set_cons_succ]
  refine' wpAnyH_take (i := 4) (v := .pointer (some ⟨b, t * 18 + 15, none⟩)) rfl (by kernel_rfl) (by kernel_rfl) (by kernel_rfl) (fun _ _ _ h => h) (Or.inl ⟨by rfl, fun W h => by go_simp⟩) ⟨HP.out.jc 15 rfl, HP.out.jc 14 rfl, HP.out.jc 13 rfl⟩ ?_
  try simp only [Act.put, List.getElem_toArray, List.getElem_cons_succ, List.getElem_cons_zero, List.setIfInBounds_toArray, List.set_cons_zero, List.set_cons_succ]
  refine' wpAnyH_take (i := 5) (v := .int .i64 r.code) rfl (by kernel_rfl) (by kernel_rfl) (by kernel_rfl) (fun _ _ _ h => h) (Or.inl ⟨by rfl, fun W h => by have q : W.cell? ⟨b, t * 18 + 15, none⟩ = some (.int .i64 r.code) := h.1; go_simp⟩) ⟨HP.out.jc 15 rfl, HP.out.jc 14 rfl, HP.out.jc 13 rfl⟩ ?_
  try simp only [Act.put, List.getElem_toArray, List.getElem_cons_succ, List.getElem_cons_zero, List.setIfInBounds_toArray, List.set_cons_zero, List.set_cons_succ]
  refine' wpAnyH_take (i := 6) (v := .pointer (some ⟨b, t * 18, none⟩)) rfl (by kernel_rfl) (by kernel_rfl) (by kernel_rfl) (fun _ _ _ h => h) (Or.inl ⟨by rfl, fun W h => by go_simp⟩) ⟨HP.out.jc 15 rfl, HP.out.jc 14 rfl, HP.out.jc 13 rfl⟩ ?_
  try simp only [Act.put, List.getElem_toArray, List.getElem_cons_succ, List.getElem_cons_zero, List.setIfInBounds_toArray, List.set_cons_zero, List.set_cons_succ]
  refine' wpAnyH_take (i := 7) (v := .pointer (some ⟨b, t * 18, none⟩)) rfl (by kernel_rfl) (by kernel_rfl) (by kernel_rfl) (fun _ _ _ h => h) (Or.inl ⟨by rfl, fun W h => by go_simp⟩) ⟨HP.out.jc 15 rfl, HP.out.jc 14 rfl, HP.out.jc 13 rfl⟩ ?_
  try simp only [Act.put, List.getElem_toArray, List.getElem_cons_succ, List.getElem_cons_zero, List.setIfInBounds_toArray, List.set_cons_zero, List.set_cons_succ]
  refine' wpAnyH_take (i := 8) (v := .pointer (some ⟨b, t * 18 + 14, none⟩)) rfl (by kernel_rfl) (by kernel_rfl) (by kernel_rfl) (fun _ _ _ h => h) (Or.inl ⟨by rfl, fun W h => by go_simp⟩) ⟨HP.out.jc 15 rfl, HP.out.jc 14 rfl, HP.out.jc 13 rfl⟩ ?_
  try simp only [Act.put, List.getElem_toArray, List.getElem_cons_succ, List.getElem_cons_zero, List.setIfInBounds_toArray, List.set_cons_zero, List.set_cons_succ]
  refine' wpAnyH_take (i := 9) (v := .int .i64 r.steps) rfl (by kernel_rfl) (by kernel_rfl) (by kernel_rfl) (fun _ _ _ h => h) (Or.inl ⟨by rfl, fun W h => by have q : W.cell? ⟨b, t * 18 + 14, none⟩ = some (.int .i64 r.steps) := h.2.1; go_simp⟩) ⟨HP.out.jc 15 rfl, HP.out.jc 14 rfl, HP.out.jc 13 rfl⟩ ?_
  try simp only [Act.put, List.getElem_toArray, List.getElem_cons_succ, List.getElem_cons_zero, List.setIfInBounds_toArray, List.set_cons_zero, List.set_cons_succ]
  refine' wpAnyH_take (i := 10) (v := .pointer (some ⟨b, t * 18, none⟩)) rfl (by kernel_rfl) (by kernel_rfl) (by kernel_rfl) (fun _ _ _ h => h) (Or.inl ⟨by rfl, fun W h => by go_simp⟩) ⟨HP.out.jc 15 rfl, HP.out.jc 14 rfl, HP.out.jc 13 rfl⟩ ?_
  try simp only [Act.put, List.getElem_toArray, List.getElem_cons_succ, List.getElem_cons_zero, List.setIfInBounds_toArray, List.set_cons_zero, List.set_cons_succ]
  refine' wpAnyH_take (i := 11) (v := .pointer (some ⟨b, t * 18, none⟩)) rfl (by kernel_rfl) (by kernel_rfl) (by kernel_rfl) (fun _ _ _ h => h) (Or.inl ⟨by rfl, fun W h => by go_simp⟩) ⟨HP.out.jc 15 rfl, HP.out.jc 14 rfl, HP.out.jc 13 rfl⟩ ?_
  try simp only [Act.put, List.getElem_toArray, List.getElem_cons_succ, List.getElem_cons_zero, List.setIfInBounds_toArray, List.set_cons_zero, List.set_cons_succ]
  refine' wpAnyH_take (i := 12) (v := .pointer (some ⟨b, t * 18 + 13, none⟩)) rfl (by kernel_rfl) (by kernel_rfl) (by kernel_rfl) (fun _ _ _ h => h) (Or.inl ⟨by rfl, fun W h => by go_simp⟩) ⟨HP.out.jc 15 rfl, HP.out.jc 14 rfl, HP.out.jc 13 rfl⟩ ?_
  try simp only [Act.put, List.getElem_toArray, List.getElem_cons_succ, List.getElem_cons_zero, List.setIfInBounds_toArray, List.set_cons_zero, List.set_cons_succ]
  refine' wpAnyH_take (i := 13) (v := .int .i64 r.flips) rfl (by kernel_rfl) (by kernel_rfl) (by kernel_rfl) (fun _ _ _ h => h) (Or.inl ⟨by rfl, fun W h => by have q : W.cell? ⟨b, t * 18 + 13, none⟩ = some (.int .i64 r.flips) := h.2.2; go_simp⟩) ⟨HP.out.jc 15 rfl, HP.out.jc 14 rfl, HP.out.jc 13 rfl⟩ ?_
  try simp only [Act.put, List.getElem_toArray, List.getElem_cons_succ, List.getElem_cons_zero, List.setIfInBounds_toArray, List.set_cons_zero, List.set_cons_succ]
  refine' wpAnyH_take (i := 14) (v := .pointer (some ⟨b, t * 18, none⟩)) rfl (by kernel_rfl) (by kernel_rfl) (by kernel_rfl) (fun _ _ _ h => h) (Or.inl ⟨by rfl, fun W h => by go_simp⟩) ⟨HP.out.jc 15 rfl, HP.out.jc 14 rfl, HP.out.jc 13 rfl⟩ ?_
  try simp only [Act.put, List.getElem_toArray, List.getElem_cons_succ, List.getElem_cons_zero, List.setIfInBounds_toArray, List.set_cons_zero, List.set_cons_succ]
  refine' wpAnyH_take (i := 15) (v := .pointer (some ⟨b, t * 18, none⟩)) rfl (by kernel_rfl) (by kernel_rfl) (by kernel_rfl) (fun _ _ _ h => h) (Or.inl ⟨by rfl, fun W h => by go_simp⟩) ⟨HP.out.jc 15 rfl, HP.out.jc 14 rfl, HP.out.jc 13 rfl⟩ ?_
  try simp only [Act.put, List.getElem_toArray, List.getElem_cons_succ, List.getElem_cons_zero, List.setIfInBounds_toArray, List.set_cons_zero, List.set_cons_succ]
  refine' wpAnyH_take (i := 16) (v := .pointer (some ⟨b, t * 18 + 16, none⟩)) rfl (by kernel_rfl) (by kernel_rfl) (by kernel_rfl) (fun _ _ _ h => h) (Or.inl ⟨by rfl, fun W h => by go_simp⟩) ⟨HP.out.jc 15 rfl, HP.out.jc 14 rfl, HP.out.jc 13 rfl⟩ ?_
  try simp only [Act.put, List.getElem_toArray, List.getElem_cons_succ, List.getElem_cons_zero, List.setIfInBounds_toArray, List.set_cons_zero, List.set_cons_succ]
  refine' wpAnyH_take (i := 18) (v := .pointer (some ⟨b, t * 18, none⟩)) rfl (by kernel_rfl) (by kernel_rfl) (by kernel_rfl) (fun _ _ _ h => h) (Or.inl ⟨by rfl, fun W h => by go_simp⟩) ⟨HP.out.jc 15 rfl, HP.out.jc 14 rfl, HP.out.jc 13 rfl⟩ ?_
  try simp only [Act.put, List.getElem_toArray, List.getElem_cons_succ, List.getElem_cons_zero, List.setIfInBounds_toArray, List.set_cons_zero, List.set_cons_succ]
  refine' wpAnyH_take (i := 19) (v := .pointer (some ⟨b, t * 18, none⟩)) rfl (by kernel_rfl) (by kernel_rfl) (by kernel_rfl) (fun _ _ _ h => h) (Or.inl ⟨by rfl, fun W h => by go_simp⟩) ⟨HP.out.jc 15 rfl, HP.out.jc 14 rfl, HP.out.jc 13 rfl⟩ ?_
  try simp only [Act.put, List.getElem_toArray, List.getElem_cons_succ, List.getElem_cons_zero, List.setIfInBounds_toArray, List.set_cons_zero, List.set_cons_succ]
  refine' wpAnyH_take (i := 20) (v := .pointer (some ⟨b, t * 18 + 17, none⟩)) rfl (by kernel_rfl) (by kernel_rfl) (by kernel_rfl) (fun _ _ _ h => h) (Or.inl ⟨by rfl, fun W h => by go_simp⟩) ⟨HP.out.jc 15 rfl, HP.out.jc 14 rfl, HP.out.jc 13 rfl⟩ ?_
  try simp only [Act.put, List.getElem_toArray, List.getElem_cons_succ, List.getElem_cons_zero, List.setIfInBounds_toArray, List.set_cons_zero, List.set_cons_succ]
  refine wpAnyH_ready (rs := [17, 21]) (by kernel_rfl) (by simp) ?_
  refine AllReadyH.cons rfl (fun K hK => ?_) (AllReadyH.cons rfl (fun K hK => ?_) AllReadyH.nil)
  · skip
    skip
    have q9 : X0.cell? ⟨b, t * 18 + 16, none⟩ = some vk := HQ6.out
    go_simp
    refine hK.out _ _ ⟨HP.out.jc 15 rfl, HP.out.jc 14 rfl, HP.out.jc 13 rfl⟩ (fun hHeld => ?_)
    clear hK K hHeld q9
    try simp only [Act.put, List.getElem_toArray, List.getElem_cons_succ, List.getElem_cons_zero, List.setIfInBounds_toArray, List.set_cons_zero, List.set_cons_succ]
    refine wpAnyH_ready (rs := [21]) (by kernel_rfl) (by simp) ?_
    refine AllReadyH.cons rfl (fun K hK => ?_) AllReadyH.nil
    have q9 : X0.cell? ⟨b, t * 18 + 17, none⟩ = some vr := HQ7.out
    go_simp
    refine hK.out _ _ ⟨HP.out.jc 15 rfl, HP.out.jc 14 rfl, HP.out.jc 13 rfl⟩ (fun hHeld => ?_)
    clear hK K hHeld q9
    try simp only [Act.put, List.getElem_toArray, List.getElem_cons_succ, List.getElem_cons_zero, List.setIfInBounds_toArray, List.set_cons_zero, List.set_cons_succ]
    refine wpAnyH_ready (rs := [22]) (by kernel_rfl) (by simp) ?_
    refine AllReadyH.cons rfl (fun K hK => ?_) AllReadyH.nil
    go_simp
    refine HCR.out.mono ?_
    rintro e X1 ⟨v, rfl, ho, hb⟩
    obtain ⟨Av, cv, rfl⟩ := Rw.slice (show (⟨v, 55, 10, (rowsV r).length, cellsR (rowsV r)⟩ : Rw).own X1 X0.heap.size from ho)
    have HSX := Lib.hid (show w.heap.size ≤ X0.heap.size from HM.out.size)
    have HM1 := Lib.hid (HM.out.thn (hb.mono HM.out.size))
    replace HP := Lib.hid (HP.out.below hb)
    have hrow : HeapS X1 (fun k => X0.heap.size ≤ k ∧ (Value.slice Av (rowsV r).length cv).ownBlock = some k) [⟨.slice Av (rowsV r).length cv, 55, 10, (rowsV r).length, cellsR (rowsV r)⟩] := ⟨Heap.one (r := ⟨.slice Av (rowsV r).length cv, 55, 10, (rowsV r).length, cellsR (rowsV r)⟩) (Rw.own_base ho (Nat.zero_le _)), fun x hx k hk => by rw [List.mem_singleton.1 hx] at hk; exact ⟨(World.ownsRow.lt ho k hk).1, hk⟩⟩
    have hR0 : ∀ k, (X0.heap.size ≤ k ∧ (Value.slice Av (rowsV r).length cv).ownBlock = some k) → κ k = 0 := fun k hk => by
      rcases Nat.eq_zero_or_pos (κ k) with h0 | h0
      · exact h0
      · have h1 := HSZ.out k (by omega); have h2 := HSX.out; have h3 := hk.1; omega
    have HN := Lib.hid (iNote_any X1 κ g b cap vt t s r vc vl HP.out hlen ⟨3, 0, 0, 0, zeroO, r.code, -1, r.steps, r.flips, rowsV r⟩ Av cv _ hrow hR0)
    clear hrow hR0 ho HM HCR HQ6 HQ7 HSZ
    generalize hrv : rowsV r = rv at *
    have HRV := Lib.hid hrv
    clear hrv
    refine hK.out _ _ ⟨HP.out.jc 15 rfl, HP.out.jc 14 rfl, HP.out.jc 13 rfl⟩ (fun hHeld => ?_)
    clear hK K hHeld hb
    try simp only [Act.put, List.getElem_toArray, List.getElem_cons_succ, List.getElem_cons_zero, List.setIfInBounds_toArray, List.set_cons_zero, List.set_cons_succ]
    refine' wpAnyH_take (i := 23) (v := .agg #[.int .i64 3, .int .i64 0, .int .i64 0, .int .i64 0, .int .i64 0, .string ⟨#[]⟩, .int .i64 0, .int .i64 0, .int .i64 r.code, .int .i64 (-1), .int .i64 r.steps, .int .i64 r.flips, .slice Av rv.length cv]) rfl (by kernel_rfl) (by kernel_rfl) (by kernel_rfl) (fun _ _ _ h => h) (Or.inl ⟨by rfl, fun W h => by go_simp⟩) ⟨HP.out.jc 15 rfl, HP.out.jc 14 rfl, HP.out.jc 13 rfl⟩ ?_
    try simp only [Act.put, List.getElem_toArray, List.getElem_cons_succ, List.getElem_cons_zero, List.setIfInBounds_toArray, List.set_cons_zero, List.set_cons_succ]
    refine wpAnyH_ready (rs := [24]) (by kernel_rfl) (by simp) ?_
    refine AllReadyH.cons rfl (fun K hK => ?_) AllReadyH.nil
    go_simp
    refine HN.out.mono ?_
    rintro e X2 ⟨rfl, κ2, vl2, hp, hm⟩
    have HM2 := Lib.hid (hm.from HM1.out (fun k hk => Nat.le_trans HSX.out hk.1))
    clear HP HN hm HM1 HSX
    have HP := Lib.hid hp
    clear hp
    refine hK.out _ _ ⟨HP.out.jc 15 rfl, HP.out.jc 14 rfl, HP.out.jc 13 rfl⟩ (fun hHeld => ?_)
    clear hK K hHeld
    try simp only [Act.put, List.getElem_toArray, List.getElem_cons_succ, List.getElem_cons_zero, List.setIfInBounds_toArray, List.set_cons_zero, List.set_cons_succ]
    refine wpAnyH_done (by kernel_rfl) ?_ _
    obtain ⟨s2, hs2⟩ : ∃ s2 : S, s2 = ({ s with log := s.log ++ [({ (⟨3, 0, 0, 0, zeroO, r.code, -1, r.steps, r.flips, rv⟩ : E) with who := t, serial := r.serial, at_ := s.now, op := r.op } : E)] } : S) := ⟨_, rfl⟩
    have HS2 := Lib.hid (show tellS s t r = (s2, zeroJ) by rw [hs2, ← HRV.out]; rfl)
    replace HP : Hid (PJ X2 κ2 g b cap vt t s2 r vc vl2) := by rw [hs2]; exact HP
    clear hs2 HRV
    have hth := HP.out.there
    obtain ⟨κ3, hp3, hm3⟩ := HP.out.put zeroJ (.slice none 0 0) (.slice none 0 0) Inn.nil Inn.nil (fun k _ h => by cases h)
    have HF := Lib.hid hp3
    have HG := Lib.hid (HM2.out.trans (MvR.mv ⟨fun k hk hr => hm3.old k hk (fun h => by rcases h.2 with h | h <;> cases h), hm3.chg⟩))
    clear hp3 hm3 HP HM2
    go_wp2_with ((with_reducible show wpList _ _ _ _ _ _); refine wpList_store_mid rfl 50 _ _ rfl b (t * 18) (jobVals zeroJ (.slice none 0 0) (.slice none 0 0)) rfl rfl hth (by kernel_rfl) (job_one2 zeroJ none none 0 0 0 0) ?_)
    go_end0
    refine ⟨rfl, κ3, vc, vl2, ?_, HG.out⟩
    rw [HS2.out]
    exact HF.out
  · skip
    have q9 : X0.cell? ⟨b, t * 18 + 17, none⟩ = some vr := HQ7.out
    go_simp
    refine hK.out _ _ ⟨HP.out.jc 15 rfl, HP.out.jc 14 rfl, HP.out.jc 13 rfl⟩ (fun hHeld => ?_)
    clear hK K hHeld q9
    try simp only [Act.put, List.getElem_toArray, List.getElem_cons_succ, List.getElem_cons_zero, List.setIfInBounds_toArray, List.set_cons_zero, List.set_cons_succ]
    refine wpAnyH_ready (rs := [17]) (by kernel_rfl) (by simp) ?_
    refine AllReadyH.cons rfl (fun K hK => ?_) AllReadyH.nil
    have q9 : X0.cell? ⟨b, t * 18 + 16, none⟩ = some vk := HQ6.out
    go_simp
    refine hK.out _ _ ⟨HP.out.jc 15 rfl, HP.out.jc 14 rfl, HP.out.jc 13 rfl⟩ (fun hHeld => ?_)
    clear hK K hHeld q9
    try simp only [Act.put, List.getElem_toArray, List.getElem_cons_succ, List.getElem_cons_zero, List.setIfInBounds_toArray, List.set_cons_zero, List.set_cons_succ]
    refine wpAnyH_ready (rs := [22]) (by kernel_rfl) (by simp) ?_
    refine AllReadyH.cons rfl (fun K hK => ?_) AllReadyH.nil
    go_simp
    refine HCR.out.mono ?_
    rintro e X1 ⟨v, rfl, ho, hb⟩
    obtain ⟨Av, cv, rfl⟩ := Rw.slice (show (⟨v, 55, 10, (rowsV r).length, cellsR (rowsV r)⟩ : Rw).own X1 X0.heap.size from ho)
    have HSX := Lib.hid (show w.heap.size ≤ X0.heap.size from HM.out.size)
    have HM1 := Lib.hid (HM.out.thn (hb.mono HM.out.size))
    replace HP := Lib.hid (HP.out.below hb)
    have hrow : HeapS X1 (fun k => X0.heap.size ≤ k ∧ (Value.slice Av (rowsV r).length cv).ownBlock = some k) [⟨.slice Av (rowsV r).length cv, 55, 10, (rowsV r).length, cellsR (rowsV r)⟩] := ⟨Heap.one (r := ⟨.slice Av (rowsV r).length cv, 55, 10, (rowsV r).length, cellsR (rowsV r)⟩) (Rw.own_base ho (Nat.zero_le _)), fun x hx k hk => by rw [List.mem_singleton.1 hx] at hk; exact ⟨(World.ownsRow.lt ho k hk).1, hk⟩⟩
    have hR0 : ∀ k, (X0.heap.size ≤ k ∧ (Value.slice Av (rowsV r).length cv).ownBlock = some k) → κ k = 0 := fun k hk => by
      rcases Nat.eq_zero_or_pos (κ k) with h0 | h0
      · exact h0
      · have h1 := HSZ.out k (by omega); have h2 := HSX.out; have h3 := hk.1; omega
    have HN := Lib.hid (iNote_any X1 κ g b cap vt t s r vc vl HP.out hlen ⟨3, 0, 0, 0, zeroO, r.code, -1, r.steps, r.flips, rowsV r⟩ Av cv _ hrow hR0)
    clear hrow hR0 ho HM HCR HQ6 HQ7 HSZ
    generalize hrv : rowsV r = rv at *
    have HRV := Lib.hid hrv
    clear hrv
    refine hK.out _ _ ⟨HP.out.jc 15 rfl, HP.out.jc 14 rfl, HP.out.jc 13 rfl⟩ (fun hHeld => ?_)
    clear hK K hHeld hb
    try simp only [Act.put, List.getElem_toArray, List.getElem_cons_succ, List.getElem_cons_zero, List.setIfInBounds_toArray, List.set_cons_zero, List.set_cons_succ]
    refine' wpAnyH_take (i := 23) (v := .agg #[.int .i64 3, .int .i64 0, .int .i64 0, .int .i64 0, .int .i64 0, .string ⟨#[]⟩, .int .i64 0, .int .i64 0, .int .i64 r.code, .int .i64 (-1), .int .i64 r.steps, .int .i64 r.flips, .slice Av rv.length cv]) rfl (by kernel_rfl) (by kernel_rfl) (by kernel_rfl) (fun _ _ _ h => h) (Or.inl ⟨by rfl, fun W h => by go_simp⟩) ⟨HP.out.jc 15 rfl, HP.out.jc 14 rfl, HP.out.jc 13 rfl⟩ ?_
    try simp only [Act.put, List.getElem_toArray, List.getElem_cons_succ, List.getElem_cons_zero, List.setIfInBounds_toArray, List.set_cons_zero, List.set_cons_succ]
    refine wpAnyH_ready (rs := [24]) (by kernel_rfl) (by simp) ?_
    refine AllReadyH.cons rfl (fun K hK => ?_) AllReadyH.nil
    go_simp
    refine HN.out.mono ?_
    rintro e X2 ⟨rfl, κ2, vl2, hp, hm⟩
    have HM2 := Lib.hid (hm.from HM1.out (fun k hk => Nat.le_trans HSX.out hk.1))
    clear HP HN hm HM1 HSX
    have HP := Lib.hid hp
    clear hp
    refine hK.out _ _ ⟨HP.out.jc 15 rfl, HP.out.jc 14 rfl, HP.out.jc 13 rfl⟩ (fun hHeld => ?_)
    clear hK K hHeld
    try simp only [Act.put, List.getElem_toArray, List.getElem_cons_succ, List.getElem_cons_zero, List.setIfInBounds_toArray, List.set_cons_zero, List.set_cons_succ]
    refine wpAnyH_done (by kernel_rfl) ?_ _
    obtain ⟨s2, hs2⟩ : ∃ s2 : S, s2 = ({ s with log := s.log ++ [({ (⟨3, 0, 0, 0, zeroO, r.code, -1, r.steps, r.flips, rv⟩ : E) with who := t, serial := r.serial, at_ := s.now, op := r.op } : E)] } : S) := ⟨_, rfl⟩
    have HS2 := Lib.hid (show tellS s t r = (s2, zeroJ) by rw [hs2, ← HRV.out]; rfl)
    replace HP : Hid (PJ X2 κ2 g b cap vt t s2 r vc vl2) := by rw [hs2]; exact HP
    clear hs2 HRV
    have hth := HP.out.there
    obtain ⟨κ3, hp3, hm3⟩ := HP.out.put zeroJ (.slice none 0 0) (.slice none 0 0) Inn.nil Inn.nil (fun k _ h => by cases h)
    have HF := Lib.hid hp3
    have HG := Lib.hid (HM2.out.trans (MvR.mv ⟨fun k hk hr => hm3.old k hk (fun h => by rcases h.2 with h | h <;> cases h), hm3.chg⟩))
    clear hp3 hm3 HP HM2
    go_wp2_with ((with_reducible show wpList _ _ _ _ _ _); refine wpList_store_mid rfl 50 _ _ rfl b (t * 18) (jobVals zeroJ (.slice none 0 0) (.slice none 0 0)) rfl rfl hth (by kernel_rfl) (job_one2 zeroJ none none 0 0 0 0) ?_)
    go_end0
    refine ⟨rfl, κ3, vc, vl2, ?_, HG.out⟩
    rw [HS2.out]
    exact HF.out
end Go.Proofs.YtnlepnfdgdbkoaaGreatDoor
