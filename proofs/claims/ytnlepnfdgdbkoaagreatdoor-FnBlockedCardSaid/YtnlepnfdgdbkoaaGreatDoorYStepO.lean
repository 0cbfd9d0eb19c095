/-
  Texts of this seat, laid together.
-/
import Derived.Test.YtnlepnfdgdbkoaaGreatDoorYCut
namespace Go.Proofs.YtnlepnfdgdbkoaaGreatDoor
open Go.RowKit M
set_option linter.unusedVariables false
set_option linter.unusedSimpArgs false
def startP (s : S) (t : Nat) (o : O) (q : List O) : S × J :=
  ({ s with todo := s.todo.set t q, serial := s.serial + 1, log := s.log ++ [⟨1, t, s.serial + 1, s.now, o, 0, -1, 0, 0, []⟩] }, { zeroJ with busy := true, op := o, serial := s.serial + 1, pc := if o.kind = 3 then 12 else 0 })
theorem startP_yes (s : S) (t : Nat) {o : O} (q : List O) (h : o.kind = 3) : startP s t o q = ({ s with todo := s.todo.set t q, serial := s.serial + 1, log := s.log ++ [⟨1, t, s.serial + 1, s.now, o, 0, -1, 0, 0, []⟩] }, ⟨true, o, s.serial + 1, 12, 0, 0, 0, 0, 0, 0, 0, 0, 0, [], []⟩) := by
  unfold startP; rw [if_pos h]; rfl
theorem startP_no (s : S) (t : Nat) {o : O} (q : List O) (h : ¬ o.kind = 3) : startP s t o q = ({ s with todo := s.todo.set t q, serial := s.serial + 1, log := s.log ++ [⟨1, t, s.serial + 1, s.now, o, 0, -1, 0, 0, []⟩] }, ⟨true, o, s.serial + 1, 0, 0, 0, 0, 0, 0, 0, 0, 0, 0, [], []⟩) := by
  unfold startP; rw [if_neg h]; rfl
theorem PJ.qf {w : World} {κ : Nat → Nat} {g b cap tb tc t : Nat} {s : S} {r : J} {vc vl : Value} (h : PJ w κ g b cap (.slice (some ⟨tb, 0, none⟩) 4 tc) t s r vc vl) (hn : s.todo.length = 4) (j : Nat) : w.frozen? ⟨tb, j, none⟩ = false := by
  obtain ⟨tb', tc', u, e, _, _, h1, _⟩ := h.queue hn
  injection e with e1 e2 e3
  injection e1 with e1
  injection e1 with e1
  subst e1
  exact h1 j
theorem cell_row {w : World} {b g o : Nat} (cs : Array Value) (h : b ≠ g) : (w.setRow g cs).cell? ⟨b, o, none⟩ = w.cell? ⟨b, o, none⟩ := by
  unfold World.cell?
  simp only [setRow_other w g b cs h]
set_option maxRecDepth 100000 in
set_option maxHeartbeats 8000000 in
theorem iBegin_any (w : World) (κ : Nat → Nat) (g b cap : Nat) (vt : Value) (t : Nat) (s : S) (r : J) (vc vl : Value) (h : PJ w κ g b cap vt t s r vc vl) (hlen : s.log.length ≤ 1048576) (hn : s.todo.length = 4) (o : O) (q : List O) (hq : s.todo.getD t [] = o :: q) (hs0 : 0 ≤ s.serial) (hs1 : s.serial < 1000000) :
    Calls Tryz.prog 61 #[.pointer (some ⟨g, 0, none⟩), .int .i64 (t : Int)] w (PX w κ g b cap vt t (startP s t o q)) := by
  have hulj := Tryz.underlying50
  have ht4 : (t : Int) < 4 := by have := h.tl; omega
  have HSZ := Lib.hid (show ∀ k, κ k ≠ 0 → k < w.heap.size from h.wt.lt)
  obtain ⟨tb, tc, u, rfl, hk3, hu, hfz, hrd⟩ := h.queue hn
  rw [hq] at hrd
  obtain ⟨qb, off, qc, hue, hqc, hqm, hq4, hqlt, hqa⟩ : ∃ qb off qc, u = .slice (some ⟨qb, off, none⟩) (q.length + 1) qc ∧ q.length + 1 ≤ qc ∧ qc ≤ maxLen ∧ κ qb = 4 ∧ qb < w.heap.size ∧ ∀ k, k < (cellsF opCells (o :: q)).length → w.cell? ⟨qb, off + k, none⟩ = (cellsF opCells (o :: q))[k]? := by
    rcases hrd with ⟨_, e, _⟩ | h1
    · cases e
    · exact h1
  subst hue
  have hcut := hrd.cut
  have hl4 : 4 ≤ (cellsF opCells (o :: q)).length := by rw [show cellsF opCells (o :: q) = (opCells o).toList ++ cellsF opCells q from rfl, List.length_append]; exact Nat.le_add_right 4 _
  have e0 : w.cell? ⟨qb, off, none⟩ = some (.int .i64 o.kind) := hqa 0 (by omega)
  have e1 : w.cell? ⟨qb, off + 1, none⟩ = some (.string o.key) := hqa 1 (by omega)
  have e2 : w.cell? ⟨qb, off + 2, none⟩ = some (.int .i64 o.what) := hqa 2 (by omega)
  have e3 : w.cell? ⟨qb, off + 3, none⟩ = some (.int .i64 o.val) := hqa 3 (by omega)
  have p2 : w.cell? ⟨g, 2, none⟩ = some (.slice (some ⟨tb, 0, none⟩) 4 tc) := h.blk.get 2
  have p4 : w.cell? ⟨g, 4, none⟩ = some (.int .i64 s.serial) := h.blk.get 4
  have f4 : w.frozen? ⟨g, 4, none⟩ = false := h.blk.frz 4
  have hsw : IntKind.i64.wrap (s.serial + 1) = s.serial + 1 := by rw [IntKind.wrap_i64]; omega
  have hgq : g ≠ qb := fun e => by have := h.six; rw [e] at this; omega
  have hgt : g ≠ tb := fun e => by have := h.six; rw [e] at this; omega
  have hgl : g < w.heap.size := h.blk.lt
  have htl : tb < w.heap.size := h.wt.lt tb (by omega)
  have hser := h.ser (s.serial + 1)
  have H6 := Lib.hid h.six
  have HCG := Lib.hid (show Chg (fun k => k = g) w (w.setCell ⟨g, 4, none⟩ (.int .i64 (s.serial + 1))) from chg_one w g 4 _ _ rfl)
  have HC := Lib.hid hcut
  have HQ0 := Lib.hid hqc
  have HQM := Lib.hid hqm
  have hd : (s.todo.getD t []).tail = q := by rw [hq]; rfl
  clear hrd hqa hl4 hqc hqm hcut hq hd h
  go_enter Tryz.func61, Tryz.ntmps61
  go_upto_region 2 with fail
  refine wp_gen (fun X => PJ X κ g b cap (.slice (some ⟨tb, 0, none⟩) 4 tc) t { s with serial := s.serial + 1 } r vc vl ∧ Mv κ κ w X ∧ (X.cell? ⟨tb, t, none⟩ = some (.slice (some ⟨qb, off, none⟩) (q.length + 1) qc) ∧ X.cell? ⟨qb, off, none⟩ = some (.int .i64 o.kind) ∧ X.cell? ⟨qb, off + 1, none⟩ = some (.string o.key) ∧ X.cell? ⟨qb, off + 2, none⟩ = some (.int .i64 o.what) ∧ X.cell? ⟨qb, off + 3, none⟩ = some (.int .i64 o.val) ∧ X.cell? ⟨g, 4, none⟩ = some (.int .i64 (s.serial + 1))) ∧ Rd X (fun k => κ k = 4) (cutV qb off (q.length + 1) qc) q.length (cellsF opCells q)) ⟨hser.1, hser.2, ⟨by go_simp, by go_simp, by go_simp, by go_simp, by go_simp, by go_simp⟩, HC.out.chg HCG.out (fun k h4 e => by have h5 : κ k = 4 := h4; have h6 := H6.out; rw [e] at h5; omega)⟩ ?_
  clear hser HCG p2 p4 f4 e0 e1 e2 e3 hu HC
  rintro X ⟨hp, hm, hfs, hcut⟩
  have HP := Lib.hid (hp.below (below_drew _ _))
  have HM := Lib.hid (hm.thn (below_drew _ _))
  have HC := Lib.hid (hcut.below (below_drew _ _))
  have HFS := Lib.hid (show X.drew.cell? ⟨tb, t, none⟩ = some (.slice (some ⟨qb, off, none⟩) (q.length + 1) qc) ∧ X.drew.cell? ⟨qb, off, none⟩ = some (.int .i64 o.kind) ∧ X.drew.cell? ⟨qb, off + 1, none⟩ = some (.string o.key) ∧ X.drew.cell? ⟨qb, off + 2, none⟩ = some (.int .i64 o.what) ∧ X.drew.cell? ⟨qb, off + 3, none⟩ = some (.int .i64 o.val) ∧ X.drew.cell? ⟨g, 4, none⟩ = some (.int .i64 (s.serial + 1)) from hfs)
  clear hp hm hfs hcut hfz
  refine wp_region_held_drew (S := fun X : World => X.cell? ⟨tb, t, none⟩ = some (.slice (some ⟨qb, off, none⟩) (q.length + 1) qc) ∧ X.cell? ⟨qb, off, none⟩ = some (.int .i64 o.kind) ∧ X.cell? ⟨qb, off + 1, none⟩ = some (.string o.key) ∧ X.cell? ⟨qb, off + 2, none⟩ = some (.int .i64 o.what) ∧ X.cell? ⟨qb, off + 3, none⟩ = some (.int .i64 o.val) ∧ X.cell? ⟨g, 4, none⟩ = some (.int .i64 (s.serial + 1))) (by kernel_rfl) HFS.out (fun hHeld => ?_)
  clear hHeld
  generalize X.drew = X0 at *
  refine' wpAnyH_take (i := 0) (v := .pointer (some ⟨tb, t, none⟩)) rfl (by kernel_rfl) (by kernel_rfl) (by kernel_rfl) (fun _ _ _ h => h) (Or.inl ⟨by rfl, fun W h => by go_simp⟩) HFS.out ?_
  try simp only [Act.put, List.getElem_toArray, List.getElem_cons_succ, List.getElem_cons_zero, List.setIfInBounds_toArray, List.set_cons_zero, List.set_cons_succ]
  refine' wpAnyH_take (i := 1) (v := .pointer (some ⟨tb, t, none⟩)) rfl (by kernel_rfl) (by kernel_rfl) (by kernel_rfl) (fun _ _ _ h => h) (Or.inl ⟨by rfl, fun W h => by go_simp⟩) HFS.out ?_
  try simp only [Act.put, List.getElem_toArray, List.getElem_cons_succ, List.getElem_cons_zero, List.setIfInBounds_toArray, List.set_cons_zero, List.set_cons_succ]
  refine' wpAnyH_take (i := 2) (v := .pointer (some ⟨tb, t, none⟩)) rfl (by kernel_rfl) (by kernel_rfl) (by kernel_rfl) (fun _ _ _ h => h) (Or.inl ⟨by rfl, fun W h => by go_simp⟩) HFS.out ?_
  try simp only [Act.put, List.getElem_toArray, List.getElem_cons_succ, List.getElem_cons_zero, List.setIfInBounds_toArray, List.set_cons_zero, List.set_cons_succ]
  refine' wpAnyH_take (i := 3) (v := (.slice (some ⟨qb, off, none⟩) (q.length + 1) qc)) rfl (by kernel_rfl) (by kernel_rfl) (by kernel_rfl) (fun _ _ _ h => h) (Or.inl ⟨by rfl, fun W h => by obtain ⟨h1, h2, h3, h4, h5, h6⟩ := h; go_simp⟩) HFS.out ?_
  try simp only [Act.put, List.getElem_toArray, List.getElem_cons_succ, List.getElem_cons_zero, List.setIfInBounds_toArray, List.set_cons_zero, List.set_cons_succ]
  refine' wpAnyH_take (i := 4) (v := .pointer (some ⟨qb, off, none⟩)) rfl (by kernel_rfl) (by kernel_rfl) (by kernel_rfl) (fun _ _ _ h => h) (Or.inl ⟨by rfl, fun W h => by go_simp⟩) HFS.out ?_
  try simp only [Act.put, List.getElem_toArray, List.getElem_cons_succ, List.getElem_cons_zero, List.setIfInBounds_toArray, List.set_cons_zero, List.set_cons_succ]
  refine' wpAnyH_take (i := 5) (v := .agg #[.int .i64 o.kind, .string o.key, .int .i64 o.what, .int .i64 o.val]) rfl (by kernel_rfl) (by kernel_rfl) (by kernel_rfl) (fun _ _ _ h => h) (Or.inl ⟨by rfl, fun W h => by obtain ⟨h1, h2, h3, h4, h5, h6⟩ := h; go_simp⟩) HFS.out ?_
  try simp only [Act.put, List.getElem_toArray, List.getElem_cons_succ, List.getElem_cons_zero, List.setIfInBounds_toArray, List.set_cons_zero, List.set_cons_succ]
  refine' wpAnyH_take (i := 6) (v := .pointer (some ⟨g, 0, none⟩)) rfl (by kernel_rfl) (by kernel_rfl) (by kernel_rfl) (fun _ _ _ h => h) (Or.inl ⟨by rfl, fun W h => by go_simp⟩) HFS.out ?_
  try simp only [Act.put, List.getElem_toArray, List.getElem_cons_succ, List.getElem_cons_zero, List.setIfInBounds_toArray, List.set_cons_zero, List.set_cons_succ]
  refine' wpAnyH_take (i := 7) (v := .pointer (some ⟨g, 0, none⟩)) rfl (by kernel_rfl) (by kernel_rfl) (by kernel_rfl) (fun _ _ _ h => h) (Or.inl ⟨by rfl, fun W h => by go_simp⟩) HFS.out ?_
  try simp only [Act.put, List.getElem_toArray, List.getElem_cons_succ, List.getElem_cons_zero, List.setIfInBounds_toArray, List.set_cons_zero, List.set_cons_succ]
  refine' wpAnyH_take (i := 8) (v := .pointer (some ⟨g, 4, none⟩)) rfl (by kernel_rfl) (by kernel_rfl) (by kernel_rfl) (fun _ _ _ h => h) (Or.inl ⟨by rfl, fun W h => by go_simp⟩) HFS.out ?_
  try simp only [Act.put, List.getElem_toArray, List.getElem_cons_succ, List.getElem_cons_zero, List.setIfInBounds_toArray, List.set_cons_zero, List.set_cons_succ]
  refine' wpAnyH_take (i := 9) (v := .int .i64 (s.serial + 1)) rfl (by kernel_rfl) (by kernel_rfl) (by kernel_rfl) (fun _ _ _ h => h) (Or.inl ⟨by rfl, fun W h => by obtain ⟨h1, h2, h3, h4, h5, h6⟩ := h; go_simp⟩) HFS.out ?_
  try simp only [Act.put, List.getElem_toArray, List.getElem_cons_succ, List.getElem_cons_zero, List.setIfInBounds_toArray, List.set_cons_zero, List.set_cons_succ]
  refine' wpAnyH_take (i := 10) (v := .agg #[.bool true, .int .i64 o.kind, .string o.key, .int .i64 o.what, .int .i64 o.val, .int .i64 (s.serial + 1), .int .i64 0, .int .i64 0, .int .i64 0, .int .i64 0, .int .i64 0, .int .i64 0, .int .i64 0, .int .i64 0, .int .i64 0, .int .i64 0, .slice none 0 0, .slice none 0 0]) rfl (by kernel_rfl) (by kernel_rfl) (by kernel_rfl) (fun _ _ _ h => h) (Or.inl ⟨by rfl, fun W h => by go_simp⟩) HFS.out ?_
  try simp only [Act.put, List.getElem_toArray, List.getElem_cons_succ, List.getElem_cons_zero, List.setIfInBounds_toArray, List.set_cons_zero, List.set_cons_succ]
  refine wpAnyH_ready (rs := [11]) (by kernel_rfl) (by simp) ?_
  refine AllReadyH.cons rfl (fun K hK => ?_) AllReadyH.nil
  go_simp
  have hb := below_oneL X0 (.cells #[.bool false, .int .i64 0, .string ⟨#[]⟩, .int .i64 0, .int .i64 0, .int .i64 0, .int .i64 0, .int .i64 0, .int .i64 0, .int .i64 0, .int .i64 0, .int .i64 0, .int .i64 0, .int .i64 0, .int .i64 0, .int .i64 0, .slice none 0 0, .slice none 0 0] 50)
  have hn0 := Blk.new X0 X0.heap.size 50 #[.bool false, .int .i64 0, .string ⟨#[]⟩, .int .i64 0, .int .i64 0, .int .i64 0, .int .i64 0, .int .i64 0, .int .i64 0, .int .i64 0, .int .i64 0, .int .i64 0, .int .i64 0, .int .i64 0, .int .i64 0, .int .i64 0, .slice none 0 0, .slice none 0 0] rfl
  replace HFS := Lib.hid (show (X0.alloc (.cells #[.bool false, .int .i64 0, .string ⟨#[]⟩, .int .i64 0, .int .i64 0, .int .i64 0, .int .i64 0, .int .i64 0, .int .i64 0, .int .i64 0, .int .i64 0, .int .i64 0, .int .i64 0, .int .i64 0, .int .i64 0, .int .i64 0, .slice none 0 0, .slice none 0 0] 50)).cell? ⟨tb, t, none⟩ = some (.slice (some ⟨qb, off, none⟩) (q.length + 1) qc) ∧ (X0.alloc (.cells #[.bool false, .int .i64 0, .string ⟨#[]⟩, .int .i64 0, .int .i64 0, .int .i64 0, .int .i64 0, .int .i64 0, .int .i64 0, .int .i64 0, .int .i64 0, .int .i64 0, .int .i64 0, .int .i64 0, .int .i64 0, .int .i64 0, .slice none 0 0, .slice none 0 0] 50)).cell? ⟨qb, off, none⟩ = some (.int .i64 o.kind) ∧ (X0.alloc (.cells #[.bool false, .int .i64 0, .string ⟨#[]⟩, .int .i64 0, .int .i64 0, .int .i64 0, .int .i64 0, .int .i64 0, .int .i64 0, .int .i64 0, .int .i64 0, .int .i64 0, .int .i64 0, .int .i64 0, .int .i64 0, .int .i64 0, .slice none 0 0, .slice none 0 0] 50)).cell? ⟨qb, off + 1, none⟩ = some (.string o.key) ∧ (X0.alloc (.cells #[.bool false, .int .i64 0, .string ⟨#[]⟩, .int .i64 0, .int .i64 0, .int .i64 0, .int .i64 0, .int .i64 0, .int .i64 0, .int .i64 0, .int .i64 0, .int .i64 0, .int .i64 0, .int .i64 0, .int .i64 0, .int .i64 0, .slice none 0 0, .slice none 0 0] 50)).cell? ⟨qb, off + 2, none⟩ = some (.int .i64 o.what) ∧ (X0.alloc (.cells #[.bool false, .int .i64 0, .string ⟨#[]⟩, .int .i64 0, .int .i64 0, .int .i64 0, .int .i64 0, .int .i64 0, .int .i64 0, .int .i64 0, .int .i64 0, .int .i64 0, .int .i64 0, .int .i64 0, .int .i64 0, .int .i64 0, .slice none 0 0, .slice none 0 0] 50)).cell? ⟨qb, off + 3, none⟩ = some (.int .i64 o.val) ∧ (X0.alloc (.cells #[.bool false, .int .i64 0, .string ⟨#[]⟩, .int .i64 0, .int .i64 0, .int .i64 0, .int .i64 0, .int .i64 0, .int .i64 0, .int .i64 0, .int .i64 0, .int .i64 0, .int .i64 0, .int .i64 0, .int .i64 0, .int .i64 0, .slice none 0 0, .slice none 0 0] 50)).cell? ⟨g, 4, none⟩ = some (.int .i64 (s.serial + 1)) from ⟨(hb.cell (p := ⟨tb, t, none⟩) (cell_lt HFS.out.1)).trans HFS.out.1, (hb.cell (p := ⟨qb, off, none⟩) (cell_lt HFS.out.2.1)).trans HFS.out.2.1, (hb.cell (p := ⟨qb, off + 1, none⟩) (cell_lt HFS.out.2.2.1)).trans HFS.out.2.2.1, (hb.cell (p := ⟨qb, off + 2, none⟩) (cell_lt HFS.out.2.2.2.1)).trans HFS.out.2.2.2.1, (hb.cell (p := ⟨qb, off + 3, none⟩) (cell_lt HFS.out.2.2.2.2.1)).trans HFS.out.2.2.2.2.1, (hb.cell (p := ⟨g, 4, none⟩) (cell_lt HFS.out.2.2.2.2.2)).trans HFS.out.2.2.2.2.2⟩)
  have hsz : X0.heap.size + 1 = (X0.alloc (.cells #[.bool false, .int .i64 0, .string ⟨#[]⟩, .int .i64 0, .int .i64 0, .int .i64 0, .int .i64 0, .int .i64 0, .int .i64 0, .int .i64 0, .int .i64 0, .int .i64 0, .int .i64 0, .int .i64 0, .int .i64 0, .int .i64 0, .slice none 0 0, .slice none 0 0] 50)).heap.size := by simp [go_sem]
  have HNW := Lib.hid (show w.heap.size ≤ X0.heap.size from HM.out.size)
  replace HM := Lib.hid (HM.out.thn (hb.mono HM.out.size))
  have HPX := Lib.hid (HP.out.below hb)
  replace HC := Lib.hid (HC.out.below hb)
  have G := Lib.hid hn0
  refine hK.out _ _ HFS.out (fun hHeld => ?_)
  clear hK K hHeld hb hn0 HP
  try simp only [Act.put, List.getElem_toArray, List.getElem_cons_succ, List.getElem_cons_zero, List.setIfInBounds_toArray, List.set_cons_zero, List.set_cons_succ]
  generalize hX1 : X0.alloc (.cells #[.bool false, .int .i64 0, .string ⟨#[]⟩, .int .i64 0, .int .i64 0, .int .i64 0, .int .i64 0, .int .i64 0, .int .i64 0, .int .i64 0, .int .i64 0, .int .i64 0, .int .i64 0, .int .i64 0, .int .i64 0, .int .i64 0, .slice none 0 0, .slice none 0 0] 50) = X1 at *
  obtain ⟨n0, hn0⟩ : ∃ n0, X0.heap.size = n0 := ⟨_, rfl⟩
  rw [hn0] at G HNW hsz ⊢
  clear hX1 hn0
  have k0 : κ n0 = 0 := by
    rcases Nat.eq_zero_or_pos (κ n0) with h0 | h0
    · exact h0
    · have h1 := HSZ.out n0 (by omega); have h2 := HNW.out; omega
  have hgn : g ≠ n0 := by have := HNW.out; omega
  have htn : tb ≠ n0 := by have := HNW.out; omega
  have hqn : qb ≠ n0 := by have := HNW.out; omega
  refine wpAnyH_ready (rs := [12]) (by kernel_rfl) (by simp) ?_
  refine AllReadyH.cons rfl (fun K hK => ?_) AllReadyH.nil
  rw [if_pos (by rfl)]
  refine wp_store_row 50 _ _ rfl n0 (jobVals (⟨true, o, s.serial + 1, 0, 0, 0, 0, 0, 0, 0, 0, 0, 0, [], []⟩ : J) (.slice none 0 0) (.slice none 0 0)) rfl rfl 50 _ G.out (by kernel_rfl) rfl (job_one2 (⟨true, o, s.serial + 1, 0, 0, 0, 0, 0, 0, 0, 0, 0, 0, [], []⟩ : J) none none 0 0 0 0) ?_
  have HFT := Lib.hid ((cell_row (jobVals (⟨true, o, s.serial + 1, 0, 0, 0, 0, 0, 0, 0, 0, 0, 0, [], []⟩ : J) (.slice none 0 0) (.slice none 0 0)) htn).trans HFS.out.1)
  have hg1 := grown_setRow X1 n0 (jobVals (⟨true, o, s.serial + 1, 0, 0, 0, 0, 0, 0, 0, 0, 0, 0, [], []⟩ : J) (.slice none 0 0) (.slice none 0 0))
  have HP := Lib.hid (HPX.out.setRow k0 (jobVals (⟨true, o, s.serial + 1, 0, 0, 0, 0, 0, 0, 0, 0, 0, 0, [], []⟩ : J) (.slice none 0 0) (.slice none 0 0)))
  replace HM := Lib.hid (HM.out.thn (below_setRow' (Below.refl _ _) (show w.heap.size ≤ n0 from HNW.out) (jobVals (⟨true, o, s.serial + 1, 0, 0, 0, 0, 0, 0, 0, 0, 0, 0, [], []⟩ : J) (.slice none 0 0) (.slice none 0 0))))
  replace HC := Lib.hid (HC.out.chg (Chg.of_grown (S := fun k => k = n0) hg1 (fun i hi => by injection hi with hi; exact hi.symm)) (fun k h4 e => by have h5 : κ k = 4 := h4; rw [e] at h5; omega))
  replace G := Lib.hid (show Blk (X1.setRow n0 (jobVals (⟨true, o, s.serial + 1, 0, 0, 0, 0, 0, 0, 0, 0, 0, 0, [], []⟩ : J) (.slice none 0 0) (.slice none 0 0))) n0 50 (jobVals (⟨true, o, s.serial + 1, 0, 0, 0, 0, 0, 0, 0, 0, 0, 0, [], []⟩ : J) (.slice none 0 0) (.slice none 0 0)) from setRow_heap _ _ _ _ _ _ G.out)
  refine hK.out _ _ ⟨(cell_row _ htn).trans HFS.out.1, (cell_row _ hqn).trans HFS.out.2.1, (cell_row _ hqn).trans HFS.out.2.2.1, (cell_row _ hqn).trans HFS.out.2.2.2.1, (cell_row _ hqn).trans HFS.out.2.2.2.2.1, (cell_row _ hgn).trans HFS.out.2.2.2.2.2⟩ (fun hHeld => ?_)
  clear hK K hHeld HPX hg1
  try simp only [Act.put, List.getElem_toArray, List.getElem_cons_succ, List.getElem_cons_zero, List.setIfInBounds_toArray, List.set_cons_zero, List.set_cons_succ]
  refine wpAnyH_done (by kernel_rfl) ?_ _
  have qt := HFT.out
  clear HFT
  generalize hX2 : X1.setRow n0 (jobVals (⟨true, o, s.serial + 1, 0, 0, 0, 0, 0, 0, 0, 0, 0, 0, [], []⟩ : J) (.slice none 0 0) (.slice none 0 0)) = X2 at *
  clear hX2 HFS hsz X1
  by_cases h3 : o.kind = 3
  · have d3 : (o.kind == 3) = true := by rw [beq_iff_eq]; exact h3
    have HST := Lib.hid (startP_yes s t q h3)
    have z1 : X2.cell? ⟨n0, 1, none⟩ = some (.int .i64 o.kind) := G.out.get 1
    have z3 : X2.cell? ⟨n0, 6, none⟩ = some (.int .i64 0) := G.out.get 6
    have y3 := G.out.frz 6
    clear h3
    have QT := Lib.hid qt
    go_upto_region 5 with fail
    refine wp_gen (fun X => Blk X n0 50 (jobVals (⟨true, o, s.serial + 1, 12, 0, 0, 0, 0, 0, 0, 0, 0, 0, [], []⟩ : J) (.slice none 0 0) (.slice none 0 0)) ∧ PJ X κ g b cap (.slice (some ⟨tb, 0, none⟩) 4 tc) t { s with serial := s.serial + 1 } r vc vl ∧ Mv κ κ w X ∧ Rd X (fun k => κ k = 4) (cutV qb off (q.length + 1) qc) q.length (cellsF opCells q) ∧ X.cell? ⟨tb, t, none⟩ = some (.slice (some ⟨qb, off, none⟩) (q.length + 1) qc)) ⟨G.out.store 6 _, HP.out.store G.out k0 6 _, HM.out.thn ((Below.refl _ _).setCell (p := ⟨n0, 6, none⟩) HNW.out _), HC.out.chg (Chg.of_grown (S := fun k => k = n0) (row_store G.out 6 (.int .i64 12)) (fun i hi => by injection hi with hi; exact hi.symm)) (fun k h4 e => by have h5 : κ k = 4 := h4; rw [e] at h5; omega), by go_simp⟩ ?_
    clear z1 z3 y3 G HP HM HC QT qt
    rintro X ⟨g0, hp, hm, hcut, hct⟩
    have hft : X.frozen? ⟨tb, t, none⟩ = false := hp.qf hn t
    have HP := Lib.hid hp
    have HM := Lib.hid hm
    have HC := Lib.hid hcut
    have G := Lib.hid g0
    clear g0 hp hm hcut
    have q1 := HQ0.out
    by_cases hc : qc = 1
    · have HCV := Lib.hid (show cutV qb off (q.length + 1) qc = (.slice (some ⟨qb, off, none⟩) 0 0) by unfold cutV; rw [if_pos hc, show q.length + 1 - 1 = 0 by omega, hc])
      have hq0 : q.length = 0 := by omega
      have hi1 : (1 : Int) ≤ (q.length : Int) + 1 := by omega
      have hi2 : (q.length : Int) + 1 ≤ (qc : Int) := by omega
      rw [HCV.out] at HC
      go_upto_region 6 with fail
      have hcu := HP.out.todoCut hn (.slice (some ⟨qb, off, none⟩) 0 0) q HC.out hct (fun b hb => hb)
      have hX : X.setCell ⟨tb, t, none⟩ (.slice (some ⟨qb, off, none⟩) 0 0) = X.setCell ⟨tb, t, none⟩ (.slice (some ⟨qb, off, none⟩) 0 0) := rfl
      refine wp_gen (fun X => Blk X n0 50 (jobVals (⟨true, o, s.serial + 1, 12, 0, 0, 0, 0, 0, 0, 0, 0, 0, [], []⟩ : J) (.slice none 0 0) (.slice none 0 0)) ∧ PJ X κ g b cap (.slice (some ⟨tb, 0, none⟩) 4 tc) t { s with serial := s.serial + 1, todo := s.todo.set t q } r vc vl ∧ Mv κ κ w X) ⟨G.out.far _ _ _ (Ne.symm htn), hcu.1, HM.out.trans hcu.2⟩ ?_
      clear hcu hct hft HC HCV hi1 hi2 hX G HP HM
      rintro X3 ⟨g0, hp, hm⟩
      have HP := Lib.hid (hp.below (below_drew _ _))
      have HM := Lib.hid (hm.thn (below_drew _ _))
      have G := Lib.hid (g0.below (below_drew _ _))
      clear hp hm g0
      refine wp_region_held_drew (S := fun X : World => X.cell? ⟨g, 1, none⟩ = some (.slice (some ⟨b, 0, none⟩) 4 cap) ∧ Blk X n0 50 (jobVals (⟨true, o, s.serial + 1, 12, 0, 0, 0, 0, 0, 0, 0, 0, 0, [], []⟩ : J) (.slice none 0 0) (.slice none 0 0))) (by kernel_rfl) ⟨HP.out.blk.get 1, G.out⟩ (fun hHeld => ?_)
      clear hHeld
      generalize X3.drew = X4 at *
      refine' wpAnyH_take (i := 0) (v := .pointer (some ⟨g, 0, none⟩)) rfl (by kernel_rfl) (by kernel_rfl) (by kernel_rfl) (fun _ _ _ h => h) (Or.inl ⟨by rfl, fun W h => by go_simp⟩) ⟨HP.out.blk.get 1, G.out⟩ ?_
      try simp only [Act.put, List.getElem_toArray, List.getElem_cons_succ, List.getElem_cons_zero, List.setIfInBounds_toArray, List.set_cons_zero, List.set_cons_succ]
      refine' wpAnyH_take (i := 1) (v := .pointer (some ⟨g, 0, none⟩)) rfl (by kernel_rfl) (by kernel_rfl) (by kernel_rfl) (fun _ _ _ h => h) (Or.inl ⟨by rfl, fun W h => by go_simp⟩) ⟨HP.out.blk.get 1, G.out⟩ ?_
      try simp only [Act.put, List.getElem_toArray, List.getElem_cons_succ, List.getElem_cons_zero, List.setIfInBounds_toArray, List.set_cons_zero, List.set_cons_succ]
      refine' wpAnyH_take (i := 2) (v := .pointer (some ⟨g, 1, none⟩)) rfl (by kernel_rfl) (by kernel_rfl) (by kernel_rfl) (fun _ _ _ h => h) (Or.inl ⟨by rfl, fun W h => by go_simp⟩) ⟨HP.out.blk.get 1, G.out⟩ ?_
      try simp only [Act.put, List.getElem_toArray, List.getElem_cons_succ, List.getElem_cons_zero, List.setIfInBounds_toArray, List.set_cons_zero, List.set_cons_succ]
      refine' wpAnyH_take (i := 3) (v := .slice (some ⟨b, 0, none⟩) 4 cap) rfl (by kernel_rfl) (by kernel_rfl) (by kernel_rfl) (fun _ _ _ h => h) (Or.inl ⟨by rfl, fun W h => by obtain ⟨h1, _⟩ := h; go_simp⟩) ⟨HP.out.blk.get 1, G.out⟩ ?_
      try simp only [Act.put, List.getElem_toArray, List.getElem_cons_succ, List.getElem_cons_zero, List.setIfInBounds_toArray, List.set_cons_zero, List.set_cons_succ]
      refine' wpAnyH_take (i := 4) (v := .int .i64 (t : Int)) rfl (by kernel_rfl) (by kernel_rfl) (by kernel_rfl) (fun _ _ _ h => h) (Or.inl ⟨by rfl, fun W h => by go_simp⟩) ⟨HP.out.blk.get 1, G.out⟩ ?_
      try simp only [Act.put, List.getElem_toArray, List.getElem_cons_succ, List.getElem_cons_zero, List.setIfInBounds_toArray, List.set_cons_zero, List.set_cons_succ]
      refine' wpAnyH_take (i := 5) (v := .agg (jobVals (⟨true, o, s.serial + 1, 12, 0, 0, 0, 0, 0, 0, 0, 0, 0, [], []⟩ : J) (.slice none 0 0) (.slice none 0 0))) rfl (by kernel_rfl) (by kernel_rfl) (by kernel_rfl) (fun _ _ _ h => h) (yieldsIf_load_mid (by rfl) 50 _ rfl n0 0 rfl (jobVals (⟨true, o, s.serial + 1, 12, 0, 0, 0, 0, 0, 0, 0, 0, 0, [], []⟩ : J) (.slice none 0 0) (.slice none 0 0)).toList _ (fun w' h => range_blk h.2) hulj rfl (by kernel_rfl)) ⟨HP.out.blk.get 1, G.out⟩ ?_
      try simp only [Act.put, List.getElem_toArray, List.getElem_cons_succ, List.getElem_cons_zero, List.setIfInBounds_toArray, List.set_cons_zero, List.set_cons_succ]
      refine' wpAnyH_take (i := 6) (v := .pointer (some ⟨b, t * 18, none⟩)) rfl (by kernel_rfl) (by kernel_rfl) (by kernel_rfl) (fun _ _ _ h => h) (Or.inl ⟨by rfl, fun W h => by go_simp⟩) ⟨HP.out.blk.get 1, G.out⟩ ?_
      try simp only [Act.put, List.getElem_toArray, List.getElem_cons_succ, List.getElem_cons_zero, List.setIfInBounds_toArray, List.set_cons_zero, List.set_cons_succ]
      refine wpAnyH_ready (rs := [7]) (by kernel_rfl) (by simp) ?_
      refine AllReadyH.cons rfl (fun K hK => ?_) AllReadyH.nil
      rw [if_pos (by rfl)]
      refine wp_store_mid 50 _ _ rfl b (t * 18) (jobVals (⟨true, o, s.serial + 1, 12, 0, 0, 0, 0, 0, 0, 0, 0, 0, [], []⟩ : J) (.slice none 0 0) (.slice none 0 0)) rfl rfl HP.out.there (by kernel_rfl) (job_one2 (⟨true, o, s.serial + 1, 12, 0, 0, 0, 0, 0, 0, 0, 0, 0, [], []⟩ : J) none none 0 0 0 0) ?_
      obtain ⟨κ3, hp3, hm3⟩ := HP.out.put (⟨true, o, s.serial + 1, 12, 0, 0, 0, 0, 0, 0, 0, 0, 0, [], []⟩ : J) (.slice none 0 0) (.slice none 0 0) Inn.nil Inn.nil (fun k _ h => by cases h)
      have hm4 : Mv κ κ3 X4 _ := MvR.mv ⟨fun k hk hr => hm3.old k hk (fun h => by rcases h.2 with h | h <;> cases h), hm3.chg⟩
      have g3 := G.out.mv hm4 k0
      have HP3 := Lib.hid hp3
      have HM3 := Lib.hid (HM.out.trans hm4)
      have G3 := Lib.hid g3
      refine hK.out _ _ ⟨HP3.out.blk.get 1, G3.out⟩ (fun hHeld => ?_)
      clear hK K hHeld hp3 hm3 hm4 g3 HP HM G
      try simp only [Act.put, List.getElem_toArray, List.getElem_cons_succ, List.getElem_cons_zero, List.setIfInBounds_toArray, List.set_cons_zero, List.set_cons_succ]
      refine wpAnyH_done (by kernel_rfl) ?_ _
      have HN := Lib.hid (iNote_any _ κ3 g b cap _ t _ (⟨true, o, s.serial + 1, 12, 0, 0, 0, 0, 0, 0, 0, 0, 0, [], []⟩ : J) vc vl HP3.out (show _ from hlen) ⟨1, 0, 0, 0, zeroO, 0, -1, 0, 0, []⟩ none 0 (fun _ => False) nil_rows (fun _ h => h.elim))
      clear HP3 G3
      generalize X4.setCells b (t * 18) (jobVals (⟨true, o, s.serial + 1, 12, 0, 0, 0, 0, 0, 0, 0, 0, 0, [], []⟩ : J) (.slice none 0 0) (.slice none 0 0)).toList = X5 at *
      go_wp2_with fail
      refine HN.out.mono ?_
      rintro e X6 ⟨rfl, κ4, vl4, hp, hm⟩
      have HF := Lib.hid hp
      have HG := Lib.hid (HM3.out.trans hm.mv)
      clear hp hm HN HM3
      go_wp2_with fail
      go_end0
      refine ⟨rfl, κ4, vc, vl4, ?_, HG.out⟩
      rw [HST.out]
      exact HF.out
    · have HCV := Lib.hid (show cutV qb off (q.length + 1) qc = (.slice (some ⟨qb, off + 4, none⟩) q.length (qc - 1)) by unfold cutV; rw [if_neg hc]; rfl)
      have hi1 : (1 : Int) ≤ (q.length : Int) + 1 := by omega
      have hi2 : (q.length : Int) + 1 ≤ (qc : Int) := by omega
      rw [HCV.out] at HC
      go_upto_region 6 with fail
      have hcu := HP.out.todoCut hn (.slice (some ⟨qb, off + 4, none⟩) q.length (qc - 1)) q HC.out hct (fun b hb => hb)
      have hX : X.setCell ⟨tb, t, none⟩ (.slice (some ⟨qb, off + 4, none⟩) q.length (qc - 1)) = X.setCell ⟨tb, t, none⟩ (.slice (some ⟨qb, off + 4, none⟩) q.length (qc - 1)) := rfl
      refine wp_gen (fun X => Blk X n0 50 (jobVals (⟨true, o, s.serial + 1, 12, 0, 0, 0, 0, 0, 0, 0, 0, 0, [], []⟩ : J) (.slice none 0 0) (.slice none 0 0)) ∧ PJ X κ g b cap (.slice (some ⟨tb, 0, none⟩) 4 tc) t { s with serial := s.serial + 1, todo := s.todo.set t q } r vc vl ∧ Mv κ κ w X) ⟨G.out.far _ _ _ (Ne.symm htn), hcu.1, HM.out.trans hcu.2⟩ ?_
      clear hcu hct hft HC HCV hi1 hi2 hX G HP HM
      rintro X3 ⟨g0, hp, hm⟩
      have HP := Lib.hid (hp.below (below_drew _ _))
      have HM := Lib.hid (hm.thn (below_drew _ _))
      have G := Lib.hid (g0.below (below_drew _ _))
      clear hp hm g0
      refine wp_region_held_drew (S := fun X : World => X.cell? ⟨g, 1, none⟩ = some (.slice (some ⟨b, 0, none⟩) 4 cap) ∧ Blk X n0 50 (jobVals (⟨true, o, s.serial + 1, 12, 0, 0, 0, 0, 0, 0, 0, 0, 0, [], []⟩ : J) (.slice none 0 0) (.slice none 0 0))) (by kernel_rfl) ⟨HP.out.blk.get 1, G.out⟩ (fun hHeld => ?_)
      clear hHeld
      generalize X3.drew = X4 at *
      refine' wpAnyH_take (i := 0) (v := .pointer (some ⟨g, 0, none⟩)) rfl (by kernel_rfl) (by kernel_rfl) (by kernel_rfl) (fun _ _ _ h => h) (Or.inl ⟨by rfl, fun W h => by go_simp⟩) ⟨HP.out.blk.get 1, G.out⟩ ?_
      try simp only [Act.put, List.getElem_toArray, List.getElem_cons_succ, List.getElem_cons_zero, List.setIfInBounds_toArray, List.set_cons_zero, List.set_cons_succ]
      refine' wpAnyH_take (i := 1) (v := .pointer (some ⟨g, 0, none⟩)) rfl (by kernel_rfl) (by kernel_rfl) (by kernel_rfl) (fun _ _ _ h => h) (Or.inl ⟨by rfl, fun W h => by go_simp⟩) ⟨HP.out.blk.get 1, G.out⟩ ?_
      try simp only [Act.put, List.getElem_toArray, List.getElem_cons_succ, List.getElem_cons_zero, List.setIfInBounds_toArray, List.set_cons_zero, List.set_cons_succ]
      refine' wpAnyH_take (i := 2) (v := .pointer (some ⟨g, 1, none⟩)) rfl (by kernel_rfl) (by kernel_rfl) (by kernel_rfl) (fun _ _ _ h => h) (Or.inl ⟨by rfl, fun W h => by go_simp⟩) ⟨HP.out.blk.get 1, G.out⟩ ?_
      try simp only [Act.put, List.getElem_toArray, List.getElem_cons_succ, List.getElem_cons_zero, List.setIfInBounds_toArray, List.set_cons_zero, List.set_cons_succ]
      refine' wpAnyH_take (i := 3) (v := .slice (some ⟨b, 0, none⟩) 4 cap) rfl (by kernel_rfl) (by kernel_rfl) (by kernel_rfl) (fun _ _ _ h => h) (Or.inl ⟨by rfl, fun W h => by obtain ⟨h1, _⟩ := h; go_simp⟩) ⟨HP.out.blk.get 1, G.out⟩ ?_
      try simp only [Act.put, List.getElem_toArray, List.getElem_cons_succ, List.getElem_cons_zero, List.setIfInBounds_toArray, List.set_cons_zero, List.set_cons_succ]
      refine' wpAnyH_take (i := 4) (v := .int .i64 (t : Int)) rfl (by kernel_rfl) (by kernel_rfl) (by kernel_rfl) (fun _ _ _ h => h) (Or.inl ⟨by rfl, fun W h => by go_simp⟩) ⟨HP.out.blk.get 1, G.out⟩ ?_
      try simp only [Act.put, List.getElem_toArray, List.getElem_cons_succ, List.getElem_cons_zero, List.setIfInBounds_toArray, List.set_cons_zero, List.set_cons_succ]
      refine' wpAnyH_take (i := 5) (v := .agg (jobVals (⟨true, o, s.serial + 1, 12, 0, 0, 0, 0, 0, 0, 0, 0, 0, [], []⟩ : J) (.slice none 0 0) (.slice none 0 0))) rfl (by kernel_rfl) (by kernel_rfl) (by kernel_rfl) (fun _ _ _ h => h) (yieldsIf_load_mid (by rfl) 50 _ rfl n0 0 rfl (jobVals (⟨true, o, s.serial + 1, 12, 0, 0, 0, 0, 0, 0, 0, 0, 0, [], []⟩ : J) (.slice none 0 0) (.slice none 0 0)).toList _ (fun w' h => range_blk h.2) hulj rfl (by kernel_rfl)) ⟨HP.out.blk.get 1, G.out⟩ ?_
      try simp only [Act.put, List.getElem_toArray, List.getElem_cons_succ, List.getElem_cons_zero, List.setIfInBounds_toArray, List.set_cons_zero, List.set_cons_succ]
      refine' wpAnyH_take (i := 6) (v := .pointer (some ⟨b, t * 18, none⟩)) rfl (by kernel_rfl) (by kernel_rfl) (by kernel_rfl) (fun _ _ _ h => h) (Or.inl ⟨by rfl, fun W h => by go_simp⟩) ⟨HP.out.blk.get 1, G.out⟩ ?_
      try simp only [Act.put, List.getElem_toArray, List.getElem_cons_succ, List.getElem_cons_zero, List.setIfInBounds_toArray, List.set_cons_zero, List.set_cons_succ]
      refine wpAnyH_ready (rs := [7]) (by kernel_rfl) (by simp) ?_
      refine AllReadyH.cons rfl (fun K hK => ?_) AllReadyH.nil
      rw [if_pos (by rfl)]
      refine wp_store_mid 50 _ _ rfl b (t * 18) (jobVals (⟨true, o, s.serial + 1, 12, 0, 0, 0, 0, 0, 0, 0, 0, 0, [], []⟩ : J) (.slice none 0 0) (.slice none 0 0)) rfl rfl HP.out.there (by kernel_rfl) (job_one2 (⟨true, o, s.serial + 1, 12, 0, 0, 0, 0, 0, 0, 0, 0, 0, [], []⟩ : J) none none 0 0 0 0) ?_
      obtain ⟨κ3, hp3, hm3⟩ := HP.out.put (⟨true, o, s.serial + 1, 12, 0, 0, 0, 0, 0, 0, 0, 0, 0, [], []⟩ : J) (.slice none 0 0) (.slice none 0 0) Inn.nil Inn.nil (fun k _ h => by cases h)
      have hm4 : Mv κ κ3 X4 _ := MvR.mv ⟨fun k hk hr => hm3.old k hk (fun h => by rcases h.2 with h | h <;> cases h), hm3.chg⟩
      have g3 := G.out.mv hm4 k0
      have HP3 := Lib.hid hp3
      have HM3 := Lib.hid (HM.out.trans hm4)
      have G3 := Lib.hid g3
      refine hK.out _ _ ⟨HP3.out.blk.get 1, G3.out⟩ (fun hHeld => ?_)
      clear hK K hHeld hp3 hm3 hm4 g3 HP HM G
      try simp only [Act.put, List.getElem_toArray, List.getElem_cons_succ, List.getElem_cons_zero, List.setIfInBounds_toArray, List.set_cons_zero, List.set_cons_succ]
      refine wpAnyH_done (by kernel_rfl) ?_ _
      have HN := Lib.hid (iNote_any _ κ3 g b cap _ t _ (⟨true, o, s.serial + 1, 12, 0, 0, 0, 0, 0, 0, 0, 0, 0, [], []⟩ : J) vc vl HP3.out (show _ from hlen) ⟨1, 0, 0, 0, zeroO, 0, -1, 0, 0, []⟩ none 0 (fun _ => False) nil_rows (fun _ h => h.elim))
      clear HP3 G3
      generalize X4.setCells b (t * 18) (jobVals (⟨true, o, s.serial + 1, 12, 0, 0, 0, 0, 0, 0, 0, 0, 0, [], []⟩ : J) (.slice none 0 0) (.slice none 0 0)).toList = X5 at *
      go_wp2_with fail
      refine HN.out.mono ?_
      rintro e X6 ⟨rfl, κ4, vl4, hp, hm⟩
      have HF := Lib.hid hp
      have HG := Lib.hid (HM3.out.trans hm.mv)
      clear hp hm HN HM3
      go_wp2_with fail
      go_end0
      refine ⟨rfl, κ4, vc, vl4, ?_, HG.out⟩
      rw [HST.out]
      exact HF.out
  · have d3 : (o.kind == 3) = false := by rw [beq_eq_false_iff_ne]; exact h3
    have HST := Lib.hid (startP_no s t q h3)
    have z1 : X2.cell? ⟨n0, 1, none⟩ = some (.int .i64 o.kind) := G.out.get 1
    have z3 : X2.cell? ⟨n0, 6, none⟩ = some (.int .i64 0) := G.out.get 6
    have y3 := G.out.frz 6
    clear h3
    have QT := Lib.hid qt
    go_upto_region 5 with fail
    refine wp_gen (fun X => Blk X n0 50 (jobVals (⟨true, o, s.serial + 1, 0, 0, 0, 0, 0, 0, 0, 0, 0, 0, [], []⟩ : J) (.slice none 0 0) (.slice none 0 0)) ∧ PJ X κ g b cap (.slice (some ⟨tb, 0, none⟩) 4 tc) t { s with serial := s.serial + 1 } r vc vl ∧ Mv κ κ w X ∧ Rd X (fun k => κ k = 4) (cutV qb off (q.length + 1) qc) q.length (cellsF opCells q) ∧ X.cell? ⟨tb, t, none⟩ = some (.slice (some ⟨qb, off, none⟩) (q.length + 1) qc)) ⟨G.out, HP.out, HM.out, HC.out, QT.out⟩ ?_
    clear z1 z3 y3 G HP HM HC QT qt
    rintro X ⟨g0, hp, hm, hcut, hct⟩
    have hft : X.frozen? ⟨tb, t, none⟩ = false := hp.qf hn t
    have HP := Lib.hid hp
    have HM := Lib.hid hm
    have HC := Lib.hid hcut
    have G := Lib.hid g0
    clear g0 hp hm hcut
    have q1 := HQ0.out
    by_cases hc : qc = 1
    · have HCV := Lib.hid (show cutV qb off (q.length + 1) qc = (.slice (some ⟨qb, off, none⟩) 0 0) by unfold cutV; rw [if_pos hc, show q.length + 1 - 1 = 0 by omega, hc])
      have hq0 : q.length = 0 := by omega
      have hi1 : (1 : Int) ≤ (q.length : Int) + 1 := by omega
      have hi2 : (q.length : Int) + 1 ≤ (qc : Int) := by omega
      rw [HCV.out] at HC
      go_upto_region 6 with fail
      have hcu := HP.out.todoCut hn (.slice (some ⟨qb, off, none⟩) 0 0) q HC.out hct (fun b hb => hb)
      have hX : X.setCell ⟨tb, t, none⟩ (.slice (some ⟨qb, off, none⟩) 0 0) = X.setCell ⟨tb, t, none⟩ (.slice (some ⟨qb, off, none⟩) 0 0) := rfl
      refine wp_gen (fun X => Blk X n0 50 (jobVals (⟨true, o, s.serial + 1, 0, 0, 0, 0, 0, 0, 0, 0, 0, 0, [], []⟩ : J) (.slice none 0 0) (.slice none 0 0)) ∧ PJ X κ g b cap (.slice (some ⟨tb, 0, none⟩) 4 tc) t { s with serial := s.serial + 1, todo := s.todo.set t q } r vc vl ∧ Mv κ κ w X) ⟨G.out.far _ _ _ (Ne.symm htn), hcu.1, HM.out.trans hcu.2⟩ ?_
      clear hcu hct hft HC HCV hi1 hi2 hX G HP HM
      rintro X3 ⟨g0, hp, hm⟩
      have HP := Lib.hid (hp.below (below_drew _ _))
      have HM := Lib.hid (hm.thn (below_drew _ _))
      have G := Lib.hid (g0.below (below_drew _ _))
      clear hp hm g0
      refine wp_region_held_drew (S := fun X : World => X.cell? ⟨g, 1, none⟩ = some (.slice (some ⟨b, 0, none⟩) 4 cap) ∧ Blk X n0 50 (jobVals (⟨true, o, s.serial + 1, 0, 0, 0, 0, 0, 0, 0, 0, 0, 0, [], []⟩ : J) (.slice none 0 0) (.slice none 0 0))) (by kernel_rfl) ⟨HP.out.blk.get 1, G.out⟩ (fun hHeld => ?_)
      clear hHeld
      generalize X3.drew = X4 at *
      refine' wpAnyH_take (i := 0) (v := .pointer (some ⟨g, 0, none⟩)) rfl (by kernel_rfl) (by kernel_rfl) (by kernel_rfl) (fun _ _ _ h => h) (Or.inl ⟨by rfl, fun W h => by go_simp⟩) ⟨HP.out.blk.get 1, G.out⟩ ?_
      try simp only [Act.put, List.getElem_toArray, List.getElem_cons_succ, List.getElem_cons_zero, List.setIfInBounds_toArray, List.set_cons_zero, List.set_cons_succ]
      refine' wpAnyH_take (i := 1) (v := .pointer (some ⟨g, 0, none⟩)) rfl (by kernel_rfl) (by kernel_rfl) (by kernel_rfl) (fun _ _ _ h => h) (Or.inl ⟨by rfl, fun W h => by go_simp⟩) ⟨HP.out.blk.get 1, G.out⟩ ?_
      try simp only [Act.put, List.getElem_toArray, List.getElem_cons_succ, List.getElem_cons_zero, List.setIfInBounds_toArray, List.set_cons_zero, List.set_cons_succ]
      refine' wpAnyH_take (i := 2) (v := .pointer (some ⟨g, 1, none⟩)) rfl (by kernel_rfl) (by kernel_rfl) (by kernel_rfl) (fun _ _ _ h => h) (Or.inl ⟨by rfl, fun W h => by go_simp⟩) ⟨HP.out.blk.get 1, G.out⟩ ?_
      try simp only [Act.put, List.getElem_toArray, List.getElem_cons_succ, List.getElem_cons_zero, List.setIfInBounds_toArray, List.set_cons_zero, List.set_cons_succ]
      refine' wpAnyH_take (i := 3) (v := .slice (some ⟨b, 0, none⟩) 4 cap) rfl (by kernel_rfl) (by kernel_rfl) (by kernel_rfl) (fun _ _ _ h => h) (Or.inl ⟨by rfl, fun W h => by obtain ⟨h1, _⟩ := h; go_simp⟩) ⟨HP.out.blk.get 1, G.out⟩ ?_
      try simp only [Act.put, List.getElem_toArray, List.getElem_cons_succ, List.getElem_cons_zero, List.setIfInBounds_toArray, List.set_cons_zero, List.set_cons_succ]
      refine' wpAnyH_take (i := 4) (v := .int .i64 (t : Int)) rfl (by kernel_rfl) (by kernel_rfl) (by kernel_rfl) (fun _ _ _ h => h) (Or.inl ⟨by rfl, fun W h => by go_simp⟩) ⟨HP.out.blk.get 1, G.out⟩ ?_
      try simp only [Act.put, List.getElem_toArray, List.getElem_cons_succ, List.getElem_cons_zero, List.setIfInBounds_toArray, List.set_cons_zero, List.set_cons_succ]
      refine' wpAnyH_take (i := 5) (v := .agg (jobVals (⟨true, o, s.serial + 1, 0, 0, 0, 0, 0, 0, 0, 0, 0, 0, [], []⟩ : J) (.slice none 0 0) (.slice none 0 0))) rfl (by kernel_rfl) (by kernel_rfl) (by kernel_rfl) (fun _ _ _ h => h) (yieldsIf_load_mid (by rfl) 50 _ rfl n0 0 rfl (jobVals (⟨true, o, s.serial + 1, 0, 0, 0, 0, 0, 0, 0, 0, 0, 0, [], []⟩ : J) (.slice none 0 0) (.slice none 0 0)).toList _ (fun w' h => range_blk h.2) hulj rfl (by kernel_rfl)) ⟨HP.out.blk.get 1, G.out⟩ ?_
      try simp only [Act.put, List.getElem_toArray, List.getElem_cons_succ, List.getElem_cons_zero, List.setIfInBounds_toArray, List.set_cons_zero, List.set_cons_succ]
      refine' wpAnyH_take (i := 6) (v := .pointer (some ⟨b, t * 18, none⟩)) rfl (by kernel_rfl) (by kernel_rfl) (by kernel_rfl) (fun _ _ _ h => h) (Or.inl ⟨by rfl, fun W h => by go_simp⟩) ⟨HP.out.blk.get 1, G.out⟩ ?_
      try simp only [Act.put, List.getElem_toArray, List.getElem_cons_succ, List.getElem_cons_zero, List.setIfInBounds_toArray, List.set_cons_zero, List.set_cons_succ]
      refine wpAnyH_ready (rs := [7]) (by kernel_rfl) (by simp) ?_
      refine AllReadyH.cons rfl (fun K hK => ?_) AllReadyH.nil
      rw [if_pos (by rfl)]
      refine wp_store_mid 50 _ _ rfl b (t * 18) (jobVals (⟨true, o, s.serial + 1, 0, 0, 0, 0, 0, 0, 0, 0, 0, 0, [], []⟩ : J) (.slice none 0 0) (.slice none 0 0)) rfl rfl HP.out.there (by kernel_rfl) (job_one2 (⟨true, o, s.serial + 1, 0, 0, 0, 0, 0, 0, 0, 0, 0, 0, [], []⟩ : J) none none 0 0 0 0) ?_
      obtain ⟨κ3, hp3, hm3⟩ := HP.out.put (⟨true, o, s.serial + 1, 0, 0, 0, 0, 0, 0, 0, 0, 0, 0, [], []⟩ : J) (.slice none 0 0) (.slice none 0 0) Inn.nil Inn.nil (fun k _ h => by cases h)
      have hm4 : Mv κ κ3 X4 _ := MvR.mv ⟨fun k hk hr => hm3.old k hk (fun h => by rcases h.2 with h | h <;> cases h), hm3.chg⟩
      have g3 := G.out.mv hm4 k0
      have HP3 := Lib.hid hp3
      have HM3 := Lib.hid (HM.out.trans hm4)
      have G3 := Lib.hid g3
      refine hK.out _ _ ⟨HP3.out.blk.get 1, G3.out⟩ (fun hHeld => ?_)
      clear hK K hHeld hp3 hm3 hm4 g3 HP HM G
      try simp only [Act.put, List.getElem_toArray, List.getElem_cons_succ, List.getElem_cons_zero, List.setIfInBounds_toArray, List.set_cons_zero, List.set_cons_succ]
      refine wpAnyH_done (by kernel_rfl) ?_ _
      have HN := Lib.hid (iNote_any _ κ3 g b cap _ t _ (⟨true, o, s.serial + 1, 0, 0, 0, 0, 0, 0, 0, 0, 0, 0, [], []⟩ : J) vc vl HP3.out (show _ from hlen) ⟨1, 0, 0, 0, zeroO, 0, -1, 0, 0, []⟩ none 0 (fun _ => False) nil_rows (fun _ h => h.elim))
      clear HP3 G3
      generalize X4.setCells b (t * 18) (jobVals (⟨true, o, s.serial + 1, 0, 0, 0, 0, 0, 0, 0, 0, 0, 0, [], []⟩ : J) (.slice none 0 0) (.slice none 0 0)).toList = X5 at *
      go_wp2_with fail
      refine HN.out.mono ?_
      rintro e X6 ⟨rfl, κ4, vl4, hp, hm⟩
      have HF := Lib.hid hp
      have HG := Lib.hid (HM3.out.trans hm.mv)
      clear hp hm HN HM3
      go_wp2_with fail
      go_end0
      refine ⟨rfl, κ4, vc, vl4, ?_, HG.out⟩
      rw [HST.out]
      exact HF.out
    · have HCV := Lib.hid (show cutV qb off (q.length + 1) qc = (.slice (some ⟨qb, off + 4, none⟩) q.length (qc - 1)) by unfold cutV; rw [if_neg hc]; rfl)
      have hi1 : (1 : Int) ≤ (q.length : Int) + 1 := by omega
      have hi2 : (q.length : Int) + 1 ≤ (qc : Int) := by omega
      rw [HCV.out] at HC
      go_upto_region 6 with fail
      have hcu := HP.out.todoCut hn (.slice (some ⟨qb, off + 4, none⟩) q.length (qc - 1)) q HC.out hct (fun b hb => hb)
      have hX : X.setCell ⟨tb, t, none⟩ (.slice (some ⟨qb, off + 4, none⟩) q.length (qc - 1)) = X.setCell ⟨tb, t, none⟩ (.slice (some ⟨qb, off + 4, none⟩) q.length (qc - 1)) := rfl
      refine wp_gen (fun X => Blk X n0 50 (jobVals (⟨true, o, s.serial + 1, 0, 0, 0, 0, 0, 0, 0, 0, 0, 0, [], []⟩ : J) (.slice none 0 0) (.slice none 0 0)) ∧ PJ X κ g b cap (.slice (some ⟨tb, 0, none⟩) 4 tc) t { s with serial := s.serial + 1, todo := s.todo.set t q } r vc vl ∧ Mv κ κ w X) ⟨G.out.far _ _ _ (Ne.symm htn), hcu.1, HM.out.trans hcu.2⟩ ?_
      clear hcu hct hft HC HCV hi1 hi2 hX G HP HM
      rintro X3 ⟨g0, hp, hm⟩
      have HP := Lib.hid (hp.below (below_drew _ _))
      have HM := Lib.hid (hm.thn (below_drew _ _))
      have G := Lib.hid (g0.below (below_drew _ _))
      clear hp hm g0
      refine wp_region_held_drew (S := fun X : World => X.cell? ⟨g, 1, none⟩ = some (.slice (some ⟨b, 0, none⟩) 4 cap) ∧ Blk X n0 50 (jobVals (⟨true, o, s.serial + 1, 0, 0, 0, 0, 0, 0, 0, 0, 0, 0, [], []⟩ : J) (.slice none 0 0) (.slice none 0 0))) (by kernel_rfl) ⟨HP.out.blk.get 1, G.out⟩ (fun hHeld => ?_)
      clear hHeld
      generalize X3.drew = X4 at *
      refine' wpAnyH_take (i := 0) (v := .pointer (some ⟨g, 0, none⟩)) rfl (by kernel_rfl) (by kernel_rfl) (by kernel_rfl) (fun _ _ _ h => h) (Or.inl ⟨by rfl, fun W h => by go_simp⟩) ⟨HP.out.blk.get 1, G.out⟩ ?_
      try simp only [Act.put, List.getElem_toArray, List.getElem_cons_succ, List.getElem_cons_zero, List.setIfInBounds_toArray, List.set_cons_zero, List.set_cons_succ]
      refine' wpAnyH_take (i := 1) (v := .pointer (some ⟨g, 0, none⟩)) rfl (by kernel_rfl) (by kernel_rfl) (by kernel_rfl) (fun _ _ _ h => h) (Or.inl ⟨by rfl, fun W h => by go_simp⟩) ⟨HP.out.blk.get 1, G.out⟩ ?_
      try simp only [Act.put, List.getElem_toArray, List.getElem_cons_succ, List.getElem_cons_zero, List.setIfInBounds_toArray, List.set_cons_zero, List.set_cons_succ]
      refine' wpAnyH_take (i := 2) (v := .pointer (some ⟨g, 1, none⟩)) rfl (by kernel_rfl) (by kernel_rfl) (by kernel_rfl) (fun _ _ _ h => h) (Or.inl ⟨by rfl, fun W h => by go_simp⟩) ⟨HP.out.blk.get 1, G.out⟩ ?_
      try simp only [Act.put, List.getElem_toArray, List.getElem_cons_succ, List.getElem_cons_zero, List.setIfInBounds_toArray, List.set_cons_zero, List.set_cons_succ]
      refine' wpAnyH_take (i := 3) (v := .slice (some ⟨b, 0, none⟩) 4 cap) rfl (by kernel_rfl) (by kernel_rfl) (by kernel_rfl) (fun _ _ _ h => h) (Or.inl ⟨by rfl, fun W h => by obtain ⟨h1, _⟩ := h; go_simp⟩) ⟨HP.out.blk.get 1, G.out⟩ ?_
      try simp only [Act.put, List.getElem_toArray, List.getElem_cons_succ, List.getElem_cons_zero, List.setIfInBounds_toArray, List.set_cons_zero, List.set_cons_succ]
      refine' wpAnyH_take (i := 4) (v := .int .i64 (t : Int)) rfl (by kernel_rfl) (by kernel_rfl) (by kernel_rfl) (fun _ _ _ h => h) (Or.inl ⟨by rfl, fun W h => by go_simp⟩) ⟨HP.out.blk.get 1, G.out⟩ ?_
      try simp only [Act.put, List.getElem_toArray, List.getElem_cons_succ, List.getElem_cons_zero, List.setIfInBounds_toArray, List.set_cons_zero, List.set_cons_succ]
      refine' wpAnyH_take (i := 5) (v := .agg (jobVals (⟨true, o, s.serial + 1, 0, 0, 0, 0, 0, 0, 0, 0, 0, 0, [], []⟩ : J) (.slice none 0 0) (.slice none 0 0))) rfl (by kernel_rfl) (by kernel_rfl) (by kernel_rfl) (fun _ _ _ h => h) (yieldsIf_load_mid (by rfl) 50 _ rfl n0 0 rfl (jobVals (⟨true, o, s.serial + 1, 0, 0, 0, 0, 0, 0, 0, 0, 0, 0, [], []⟩ : J) (.slice none 0 0) (.slice none 0 0)).toList _ (fun w' h => range_blk h.2) hulj rfl (by kernel_rfl)) ⟨HP.out.blk.get 1, G.out⟩ ?_
      try simp only [Act.put, List.getElem_toArray, List.getElem_cons_succ, List.getElem_cons_zero, List.setIfInBounds_toArray, List.set_cons_zero, List.set_cons_succ]
      refine' wpAnyH_take (i := 6) (v := .pointer (some ⟨b, t * 18, none⟩)) rfl (by kernel_rfl) (by kernel_rfl) (by kernel_rfl) (fun _ _ _ h => h) (Or.inl ⟨by rfl, fun W h => by go_simp⟩) ⟨HP.out.blk.get 1, G.out⟩ ?_
      try simp only [Act.put, List.getElem_toArray, List.getElem_cons_succ, List.getElem_cons_zero, List.setIfInBounds_toArray, List.set_cons_zero, List.set_cons_succ]
      refine wpAnyH_ready (rs := [7]) (by kernel_rfl) (by simp) ?_
      refine AllReadyH.cons rfl (fun K hK => ?_) AllReadyH.nil
      rw [if_pos (by rfl)]
      refine wp_store_mid 50 _ _ rfl b (t * 18) (jobVals (⟨true, o, s.serial + 1, 0, 0, 0, 0, 0, 0, 0, 0, 0, 0, [], []⟩ : J) (.slice none 0 0) (.slice none 0 0)) rfl rfl HP.out.there (by kernel_rfl) (job_one2 (⟨true, o, s.serial + 1, 0, 0, 0, 0, 0, 0, 0, 0, 0, 0, [], []⟩ : J) none none 0 0 0 0) ?_
      obtain ⟨κ3, hp3, hm3⟩ := HP.out.put (⟨true, o, s.serial + 1, 0, 0, 0, 0, 0, 0, 0, 0, 0, 0, [], []⟩ : J) (.slice none 0 0) (.slice none 0 0) Inn.nil Inn.nil (fun k _ h => by cases h)
      have hm4 : Mv κ κ3 X4 _ := MvR.mv ⟨fun k hk hr => hm3.old k hk (fun h => by rcases h.2 with h | h <;> cases h), hm3.chg⟩
      have g3 := G.out.mv hm4 k0
      have HP3 := Lib.hid hp3
      have HM3 := Lib.hid (HM.out.trans hm4)
      have G3 := Lib.hid g3
      refine hK.out _ _ ⟨HP3.out.blk.get 1, G3.out⟩ (fun hHeld => ?_)
      clear hK K hHeld hp3 hm3 hm4 g3 HP HM G
      try simp only [Act.put, List.getElem_toArray, List.getElem_cons_succ, List.getElem_cons_zero, List.setIfInBounds_toArray, List.set_cons_zero, List.set_cons_succ]
      refine wpAnyH_done (by kernel_rfl) ?_ _
      have HN := Lib.hid (iNote_any _ κ3 g b cap _ t _ (⟨true, o, s.serial + 1, 0, 0, 0, 0, 0, 0, 0, 0, 0, 0, [], []⟩ : J) vc vl HP3.out (show _ from hlen) ⟨1, 0, 0, 0, zeroO, 0, -1, 0, 0, []⟩ none 0 (fun _ => False) nil_rows (fun _ h => h.elim))
      clear HP3 G3
      generalize X4.setCells b (t * 18) (jobVals (⟨true, o, s.serial + 1, 0, 0, 0, 0, 0, 0, 0, 0, 0, 0, [], []⟩ : J) (.slice none 0 0) (.slice none 0 0)).toList = X5 at *
      go_wp2_with fail
      refine HN.out.mono ?_
      rintro e X6 ⟨rfl, κ4, vl4, hp, hm⟩
      have HF := Lib.hid hp
      have HG := Lib.hid (HM3.out.trans hm.mv)
      clear hp hm HN HM3
      go_wp2_with fail
      go_end0
      refine ⟨rfl, κ4, vc, vl4, ?_, HG.out⟩
      rw [HST.out]
      exact HF.out
end Go.Proofs.YtnlepnfdgdbkoaaGreatDoor
