/-
  Texts of this seat, laid together.
-/
import Derived.Test.YtnlepnfdgdbkoaaGreatDoorYStepG
namespace Go.Proofs.YtnlepnfdgdbkoaaGreatDoor
open Go.RowKit M
set_option linter.unusedVariables false
set_option linter.unusedSimpArgs false
theorem cell_lt {w : World} {p : Addr} {v : Value} (h : w.cell? p = some v) : p.block < w.heap.size := by
  rcases Nat.lt_or_ge p.block w.heap.size with h1 | h1
  · exact h1
  · unfold World.cell? at h
    rw [Array.getElem?_eq_none h1] at h
    cases h
section
variable {w w1 : World} {κ : Nat → Nat} {g b cap : Nat} {vt : Value} {t : Nat} {s : S} {r : J} {vc vl : Value}
theorem PJ.mid (h : PJ w κ g b cap vt t s r vc vl) (o : Nat) (ho : o < 18) {n1 : Nat} {cs1 : List Value} {u : Value} (hx : (jobDat r)[o]? = some (.row 3 1 n1 cs1)) (hu : w.cell? ⟨b, t * 18 + o, none⟩ = some u) (hg : w.grownBy w1 u.ownBlock) :
    Blk w1 g 33 (worVals s vc (.slice (some ⟨b, 0, none⟩) 4 cap) vt vl) ∧ (∀ j, j < 18 → w1.cell? ⟨b, t * 18 + j, none⟩ = w.cell? ⟨b, t * 18 + j, none⟩) ∧ (∀ j, w1.frozen? ⟨b, j, none⟩ = false) ∧ ∀ cb off, κ cb = 1 → w1.cell? ⟨cb, off, none⟩ = w.cell? ⟨cb, off, none⟩ := by
  have hjl : ({ s with jobs := s.jobs.set t r } : S).jobs.length = 4 := h.jl'
  have htl := h.tl
  have hdt : (datL jobDat (s.jobs.set t r))[t * 18 + o]? = some (.row 3 1 n1 cs1) := by
    rw [datL_at jobDat_len zeroJ (s.jobs.set t r) t o (by rw [h.jl']; exact h.tl) ho, h.job]; exact hx
  have hj : OwnS 50 18 4 w (fun k => κ k = 2) (.slice (some ⟨b, 0, none⟩) 4 cap) (datL jobDat (s.jobs.set t r)) := by
    have := h.wt.t.j
    rw [hjl] at this
    exact this
  obtain ⟨vs, h1, h2⟩ := hj
  have hro : w.ownsRow 0 50 18 (.slice (some ⟨b, 0, none⟩) 4 cap) 4 vs := h2.1.own _ List.mem_cons_self
  obtain ⟨u1, hu1, hm⟩ := innerD_row (valsD_len h1) hdt
  rw [World.ownsRow.cellAt hro _ (by omega)] at hu
  rw [hu] at hu1
  injection hu1 with hu1
  subst hu1
  have hap := ((List.pairwise_cons.1 h2.1.ap).1 _ hm).1
  have hro1 : w1.ownsRow 0 50 18 (.slice (some ⟨b, 0, none⟩) 4 cap) 4 vs := World.ownsRow.kept hro hg hap
  have hc : Chg (fun k => κ k = 2) w w1 := Chg.of_grown hg (fun k hk => h2.2 _ (List.mem_cons_of_mem _ hm) k hk)
  refine ⟨h.mv_blk hc (fun k hk => .inl (by have : κ k = 2 := hk; omega)), fun j hj => ?_, fun j => World.ownsRow.frozenAt hro1 j, fun cb off hcb => cell_chg hc (h.wt.lt cb (by omega)) (by show ¬ (κ cb = 2); omega)⟩
  rw [World.ownsRow.cellAt hro _ (by omega), World.ownsRow.cellAt hro1 _ (by omega)]
theorem PJ.cb1 {cb n cc : Nat} (h : PJ w κ g b cap vt t s r (.slice (some ⟨cb, 0, none⟩) n cc) vl) : κ cb = 1 := h.wt.t.c.2 _ List.mem_cons_self cb rfl
theorem PJ.cbb {cb n cc : Nat} (h : PJ w κ g b cap vt t s r (.slice (some ⟨cb, 0, none⟩) n cc) vl) : cb ≠ b := by
  intro e
  have h1 := h.cb1
  obtain ⟨vk, vr, _, _, _, _, hb2, _⟩ := h.cells
  rw [e] at h1
  omega
end
set_option maxRecDepth 100000 in
set_option maxHeartbeats 8000000 in
theorem iCollectKey_any (w : World) (κ : Nat → Nat) (g b cap : Nat) (vt : Value) (t : Nat) (s : S) (r : J) (vc vl : Value) (h : PJ w κ g b cap vt t s r vc vl) (hok : okC s.cells = true) (hk : 0 ≤ r.k ∧ r.k ≤ 3) (hks : r.keys.length ≤ 1048576) :
    Calls Tryz.prog 90 #[.pointer (some ⟨g, 0, none⟩), .int .i64 (t : Int), .pointer (some ⟨b, t * 18, none⟩)] w (PX w κ g b cap vt t (s, if r.k + 1 = 4 then { r with keys := r.keys ++ [cellV' s (3 + r.k)], pc := 15, k := 0 } else { r with keys := r.keys ++ [cellV' s (3 + r.k)], k := r.k + 1 })) := by
  obtain ⟨i0, hi0, hz0, hz1, hz2⟩ := info_parts info_int
  have hl := okC_len hok
  obtain ⟨cb, cc, rfl⟩ := h.vcs hl
  have ht4 : (t : Int) < 4 := by have := h.tl; omega
  obtain ⟨p, hp⟩ : ∃ p : S × J, p = (s, if r.k + 1 = 4 then { r with keys := r.keys ++ [cellV' s (3 + r.k)], pc := 15, k := 0 } else { r with keys := r.keys ++ [cellV' s (3 + r.k)], k := r.k + 1 }) := ⟨_, rfl⟩
  rw [← hp]
  have HQ := Lib.hid hp
  clear hp
  have HP := Lib.hid h
  have HM := Lib.hid (Mv.refl κ w)
  obtain ⟨m, hm, hm71⟩ : ∃ m : Nat, 3 + r.k = (m : Int) ∧ m < 71 := ⟨(3 + r.k).toNat, by omega, by omega⟩
  have hmi : (m : Int) < 71 := by omega
  have HKC := fun W => Lib.hid (iKey_any r.k W)
  rw [keyV_yes hk, hm] at HKC
  obtain ⟨z, hz⟩ : ∃ z, s.cells.getD m 0 = z := ⟨_, rfl⟩
  have HZ := Lib.hid hz
  have HR := Lib.hid (show cellV' s (3 + r.k) = z by unfold cellV'; rw [hm, Int.toNat_natCast]; exact hz)
  rw [HR.out] at HQ
  have HL := Lib.hid hl
  have k0 := hk.1
  have k1 := hk.2
  have hkw : IntKind.i64.wrap (r.k + 1) = r.k + 1 := by rw [IntKind.wrap_i64]; omega
  clear hz hm h HR hl hk
  go_enter Tryz.func90, Tryz.ntmps90
  go_upto_region 0 with fail
  replace HP := Lib.hid (HP.out.below (below_drew _ _))
  replace HM := Lib.hid (HM.out.thn (below_drew _ _))
  refine wp_region_held_drew (S := fun X : World => X.cell? ⟨g, 0, none⟩ = some ((.slice (some ⟨cb, 0, none⟩) 71 cc)) ∧ X.cell? ⟨b, t * 18 + 7, none⟩ = some (.int .i64 r.k) ∧ X.cell? ⟨cb, m, none⟩ = some (.int .i64 z)) (by kernel_rfl) ⟨HP.out.blk.get 0, HP.out.jc 7 rfl, (HZ.out ▸ HP.out.cc HL.out m hm71)⟩ (fun hHeld => ?_)
  clear hHeld
  generalize w.drew = X0 at *
  obtain ⟨vk, vr, hrg, hvk, hvr, _⟩ := HP.out.cells
  have HRK := Lib.hid (show X0.cell? ⟨b, t * 18 + 16, none⟩ = some vk from hrg 16 vk rfl)
  have HOK := Lib.hid hvk
  obtain ⟨Ak, ck, rfl⟩ := Rw.slice (show (⟨vk, 3, 1, r.keys.length, r.keys.map (Value.int .i64)⟩ : Rw).own X0 0 from hvk)
  clear hrg hvk hvr
  refine' wpAnyH_take (i := 0) (v := .pointer (some ⟨b, t * 18, none⟩)) rfl (by kernel_rfl) (by kernel_rfl) (by kernel_rfl) (fun _ _ _ h => h) (Or.inl ⟨by rfl, fun W h => by go_simp⟩) ⟨HP.out.blk.get 0, HP.out.jc 7 rfl, (HZ.out ▸ HP.out.cc HL.out m hm71)⟩ ?_
  try simp only [Act.put, List.getElem_toArray, List.getElem_cons_succ, List.getElem_cons_zero, List.setIfInBounds_toArray, List.set_cons_zero, List.set_cons_succ]
  refine' wpAnyH_take (i := 1) (v := .pointer (some ⟨b, t * 18, none⟩)) rfl (by kernel_rfl) (by kernel_rfl) (by kernel_rfl) (fun _ _ _ h => h) (Or.inl ⟨by rfl, fun W h => by go_simp⟩) ⟨HP.out.blk.get 0, HP.out.jc 7 rfl, (HZ.out ▸ HP.out.cc HL.out m hm71)⟩ ?_
  try simp only [Act.put, List.getElem_toArray, List.getElem_cons_succ, List.getElem_cons_zero, List.setIfInBounds_toArray, List.set_cons_zero, List.set_cons_succ]
  refine' wpAnyH_take (i := 2) (v := .pointer (some ⟨b, t * 18, none⟩)) rfl (by kernel_rfl) (by kernel_rfl) (by kernel_rfl) (fun _ _ _ h => h) (Or.inl ⟨by rfl, fun W h => by go_simp⟩) ⟨HP.out.blk.get 0, HP.out.jc 7 rfl, (HZ.out ▸ HP.out.cc HL.out m hm71)⟩ ?_
  try simp only [Act.put, List.getElem_toArray, List.getElem_cons_succ, List.getElem_cons_zero, List.setIfInBounds_toArray, List.set_cons_zero, List.set_cons_succ]
  refine' wpAnyH_take (i := 3) (v := .pointer (some ⟨b, t * 18 + 16, none⟩)) rfl (by kernel_rfl) (by kernel_rfl) (by kernel_rfl) (fun _ _ _ h => h) (Or.inl ⟨by rfl, fun W h => by go_simp⟩) ⟨HP.out.blk.get 0, HP.out.jc 7 rfl, (HZ.out ▸ HP.out.cc HL.out m hm71)⟩ ?_
  try simp only [Act.put, List.getElem_toArray, List.getElem_cons_succ, List.getElem_cons_zero, List.setIfInBounds_toArray, List.set_cons_zero, List.set_cons_succ]
  refine' wpAnyH_take (i := 5) (v := .pointer (some ⟨g, 0, none⟩)) rfl (by kernel_rfl) (by kernel_rfl) (by kernel_rfl) (fun _ _ _ h => h) (Or.inl ⟨by rfl, fun W h => by go_simp⟩) ⟨HP.out.blk.get 0, HP.out.jc 7 rfl, (HZ.out ▸ HP.out.cc HL.out m hm71)⟩ ?_
  try simp only [Act.put, List.getElem_toArray, List.getElem_cons_succ, List.getElem_cons_zero, List.setIfInBounds_toArray, List.set_cons_zero, List.set_cons_succ]
  refine' wpAnyH_take (i := 6) (v := .pointer (some ⟨g, 0, none⟩)) rfl (by kernel_rfl) (by kernel_rfl) (by kernel_rfl) (fun _ _ _ h => h) (Or.inl ⟨by rfl, fun W h => by go_simp⟩) ⟨HP.out.blk.get 0, HP.out.jc 7 rfl, (HZ.out ▸ HP.out.cc HL.out m hm71)⟩ ?_
  try simp only [Act.put, List.getElem_toArray, List.getElem_cons_succ, List.getElem_cons_zero, List.setIfInBounds_toArray, List.set_cons_zero, List.set_cons_succ]
  refine' wpAnyH_take (i := 7) (v := .pointer (some ⟨g, 0, none⟩)) rfl (by kernel_rfl) (by kernel_rfl) (by kernel_rfl) (fun _ _ _ h => h) (Or.inl ⟨by rfl, fun W h => by go_simp⟩) ⟨HP.out.blk.get 0, HP.out.jc 7 rfl, (HZ.out ▸ HP.out.cc HL.out m hm71)⟩ ?_
  try simp only [Act.put, List.getElem_toArray, List.getElem_cons_succ, List.getElem_cons_zero, List.setIfInBounds_toArray, List.set_cons_zero, List.set_cons_succ]
  refine' wpAnyH_take (i := 8) (v := (.slice (some ⟨cb, 0, none⟩) 71 cc)) rfl (by kernel_rfl) (by kernel_rfl) (by kernel_rfl) (fun _ _ _ h => h) (Or.inl ⟨by rfl, fun W h => by have q : W.cell? ⟨g, 0, none⟩ = some ((.slice (some ⟨cb, 0, none⟩) 71 cc)) := h.1; go_simp⟩) ⟨HP.out.blk.get 0, HP.out.jc 7 rfl, (HZ.out ▸ HP.out.cc HL.out m hm71)⟩ ?_
  try simp only [Act.put, List.getElem_toArray, List.getElem_cons_succ, List.getElem_cons_zero, List.setIfInBounds_toArray, List.set_cons_zero, List.set_cons_succ]
  refine' wpAnyH_take (i := 9) (v := .pointer (some ⟨b, t * 18, none⟩)) rfl (by kernel_rfl) (by kernel_rfl) (by kernel_rfl) (fun _ _ _ h => h) (Or.inl ⟨by rfl, fun W h => by go_simp⟩) ⟨HP.out.blk.get 0, HP.out.jc 7 rfl, (HZ.out ▸ HP.out.cc HL.out m hm71)⟩ ?_
  try simp only [Act.put, List.getElem_toArray, List.getElem_cons_succ, List.getElem_cons_zero, List.setIfInBounds_toArray, List.set_cons_zero, List.set_cons_succ]
  refine' wpAnyH_take (i := 10) (v := .pointer (some ⟨b, t * 18, none⟩)) rfl (by kernel_rfl) (by kernel_rfl) (by kernel_rfl) (fun _ _ _ h => h) (Or.inl ⟨by rfl, fun W h => by go_simp⟩) ⟨HP.out.blk.get 0, HP.out.jc 7 rfl, (HZ.out ▸ HP.out.cc HL.out m hm71)⟩ ?_
  try simp only [Act.put, List.getElem_toArray, List.getElem_cons_succ, List.getElem_cons_zero, List.setIfInBounds_toArray, List.set_cons_zero, List.set_cons_succ]
  refine' wpAnyH_take (i := 11) (v := .pointer (some ⟨b, t * 18 + 7, none⟩)) rfl (by kernel_rfl) (by kernel_rfl) (by kernel_rfl) (fun _ _ _ h => h) (Or.inl ⟨by rfl, fun W h => by go_simp⟩) ⟨HP.out.blk.get 0, HP.out.jc 7 rfl, (HZ.out ▸ HP.out.cc HL.out m hm71)⟩ ?_
  try simp only [Act.put, List.getElem_toArray, List.getElem_cons_succ, List.getElem_cons_zero, List.setIfInBounds_toArray, List.set_cons_zero, List.set_cons_succ]
  refine' wpAnyH_take (i := 12) (v := .int .i64 r.k) rfl (by kernel_rfl) (by kernel_rfl) (by kernel_rfl) (fun _ _ _ h => h) (Or.inl ⟨by rfl, fun W h => by have q : W.cell? ⟨b, t * 18 + 7, none⟩ = some (.int .i64 r.k) := h.2.1; go_simp⟩) ⟨HP.out.blk.get 0, HP.out.jc 7 rfl, (HZ.out ▸ HP.out.cc HL.out m hm71)⟩ ?_
  try simp only [Act.put, List.getElem_toArray, List.getElem_cons_succ, List.getElem_cons_zero, List.setIfInBounds_toArray, List.set_cons_zero, List.set_cons_succ]
  refine wpAnyH_ready (rs := [4, 13]) (by kernel_rfl) (by simp) ?_
  refine AllReadyH.cons rfl (fun K hK => ?_) (AllReadyH.cons rfl (fun K hK => ?_) AllReadyH.nil)
  · skip
    have q9 : X0.cell? ⟨b, t * 18 + 16, none⟩ = some (.slice Ak r.keys.length ck) := HRK.out
    go_simp
    refine hK.out _ _ ⟨HP.out.blk.get 0, HP.out.jc 7 rfl, (HZ.out ▸ HP.out.cc HL.out m hm71)⟩ (fun hHeld => ?_)
    clear hK K hHeld q9
    try simp only [Act.put, List.getElem_toArray, List.getElem_cons_succ, List.getElem_cons_zero, List.setIfInBounds_toArray, List.set_cons_zero, List.set_cons_succ]
    refine wpAnyH_ready (rs := [13]) (by kernel_rfl) (by simp) ?_
    refine AllReadyH.cons rfl (fun K hK => ?_) AllReadyH.nil
    go_simp
    refine (HKC _).out.mono ?_
    rintro e W9 ⟨rfl, rfl⟩
    refine hK.out _ _ ⟨HP.out.blk.get 0, HP.out.jc 7 rfl, (HZ.out ▸ HP.out.cc HL.out m hm71)⟩ (fun hHeld => ?_)
    clear hK K hHeld
    try simp only [Act.put, List.getElem_toArray, List.getElem_cons_succ, List.getElem_cons_zero, List.setIfInBounds_toArray, List.set_cons_zero, List.set_cons_succ]
    refine' wpAnyH_take (i := 14) (v := .pointer (some ⟨cb, m, none⟩)) rfl (by kernel_rfl) (by kernel_rfl) (by kernel_rfl) (fun _ _ _ h => h) (Or.inl ⟨by rfl, fun W h => by go_simp⟩) ⟨HP.out.blk.get 0, HP.out.jc 7 rfl, (HZ.out ▸ HP.out.cc HL.out m hm71)⟩ ?_
    try simp only [Act.put, List.getElem_toArray, List.getElem_cons_succ, List.getElem_cons_zero, List.setIfInBounds_toArray, List.set_cons_zero, List.set_cons_succ]
    refine' wpAnyH_take (i := 15) (v := .int .i64 z) rfl (by kernel_rfl) (by kernel_rfl) (by kernel_rfl) (fun _ _ _ h => h) (Or.inl ⟨by rfl, fun W h => by have q : W.cell? ⟨cb, m, none⟩ = some (.int .i64 z) := h.2.2; go_simp⟩) ⟨HP.out.blk.get 0, HP.out.jc 7 rfl, (HZ.out ▸ HP.out.cc HL.out m hm71)⟩ ?_
    try simp only [Act.put, List.getElem_toArray, List.getElem_cons_succ, List.getElem_cons_zero, List.setIfInBounds_toArray, List.set_cons_zero, List.set_cons_succ]
    refine wpAnyH_ready (rs := [16]) (by kernel_rfl) (by simp) ?_
    refine AllReadyH.cons rfl (fun K hK => ?_) AllReadyH.nil
    go_simp
    have hb := below_oneL X0 (.cells #[.int .i64 z] 3)
    have hnew := Blk.new X0 X0.heap.size 3 #[.int .i64 z] rfl
    have hsz1 : (X0.alloc (.cells #[.int .i64 z] 3)).heap.size = X0.heap.size + 1 := by simp [go_sem]
    have hlt16 := cell_lt HRK.out
    replace HRK := Lib.hid ((hb.cell (p := ⟨b, t * 18 + 16, none⟩) hlt16).trans HRK.out)
    replace HOK := Lib.hid (World.ownsRow.alloc HOK.out (.cells #[.int .i64 z] 3))
    replace HM := Lib.hid (HM.out.thn (hb.mono HM.out.size))
    replace HP := Lib.hid (HP.out.below hb)
    refine hK.out _ _ ⟨HP.out.blk.get 0, HP.out.jc 7 rfl, (HZ.out ▸ HP.out.cc HL.out m hm71)⟩ (fun hHeld => ?_)
    clear hK K hHeld hb
    try simp only [Act.put, List.getElem_toArray, List.getElem_cons_succ, List.getElem_cons_zero, List.setIfInBounds_toArray, List.set_cons_zero, List.set_cons_succ]
    generalize X0.alloc (.cells #[.int .i64 z] 3) = X1 at *
    refine wpAnyH_ready (rs := [17]) (by kernel_rfl) (by simp) ?_
    refine AllReadyH.cons rfl (fun K hK => ?_) AllReadyH.nil
    rw [if_pos (by rfl)]
    refine wp_append_at _ _ 25 rfl 0 3 i0 (.int .i64 0) 1 8 Tryz.underlying25 hi0 hz0 hz1 hz2 rfl (by decide) (.slice Ak r.keys.length ck) r.keys.length (r.keys.map (Value.int .i64)) rfl HOK.out ⟨X0.heap.size, 0, none⟩ 1 1 [.int .i64 z] rfl rfl ?_ ?_ (by unfold maxLen; omega) (by omega) (Nat.zero_le _) ?_
    · intro k u hk; rw [Addr.add_lit, Nat.zero_add, hnew.get k]; simpa using hk
    · intro u hu; rw [List.mem_singleton.1 hu]; rfl
    intro v' X2 hown hgrow hblk
    have hmid := HP.out.mid 16 (by decide) rfl HRK.out hgrow
    have hmap : r.keys.map (Value.int .i64) ++ [.int .i64 z] = (r.keys ++ [z]).map (Value.int .i64) := by simp
    rw [hmap] at hown
    have hlk : r.keys.length + 1 = (r.keys ++ [z]).length := by simp
    rw [hlk] at hown
    obtain ⟨Av, cv, rfl⟩ := Rw.slice (show (⟨v', 3, 1, (r.keys ++ [z]).length, (r.keys ++ [z]).map (Value.int .i64)⟩ : Rw).own X2 0 from hown)
    have HN := Lib.hid (HP.out.grow 16 (by decide) (r' := { r with keys := r.keys ++ [z] }) rfl HRK.out rfl hgrow hown (by rcases hblk with h | h; exact .inl h; exact .inr (fun k hk => by have e := Option.some.inj (h.symm.trans hk); omega)))
    have hlk2 : (r.keys ++ [z]).length = r.keys.length + 1 := by simp
    rw [hlk2] at HN ⊢
    have q0 : X2.cell? ⟨g, 0, none⟩ = some (.slice (some ⟨cb, 0, none⟩) 71 cc) := hmid.1.get 0
    have q7 : X2.cell? ⟨b, t * 18 + 7, none⟩ = some (.int .i64 r.k) := (hmid.2.1 7 (by decide)).trans (HP.out.jc 7 rfl)
    have qe : X2.cell? ⟨cb, m, none⟩ = some (.int .i64 z) := (hmid.2.2.2 cb m HP.out.cb1).trans (HZ.out ▸ HP.out.cc HL.out m hm71)
    have q16 : X2.cell? ⟨b, t * 18 + 16, none⟩ = some (.slice Ak r.keys.length ck) := (hmid.2.1 16 (by decide)).trans HRK.out
    have f16 : X2.frozen? ⟨b, t * 18 + 16, none⟩ = false := hmid.2.2.1 _
    have hgb := HP.out.gb
    have hcbb : cb ≠ b := HP.out.cbb
    refine hK.out _ _ ⟨q0, q7, qe⟩ (fun hHeld => ?_)
    clear hK K hHeld hown hgrow hblk hmid hnew hmap hlk hlk2 HRK HOK
    try simp only [Act.put, List.getElem_toArray, List.getElem_cons_succ, List.getElem_cons_zero, List.setIfInBounds_toArray, List.set_cons_zero, List.set_cons_succ]
    refine' wpAnyH_take (i := 18) (v := .pointer (some ⟨b, t * 18, none⟩)) rfl (by kernel_rfl) (by kernel_rfl) (by kernel_rfl) (fun _ _ _ h => h) (Or.inl ⟨by rfl, fun W h => by go_simp⟩) ⟨q0, q7, qe⟩ ?_
    try simp only [Act.put, List.getElem_toArray, List.getElem_cons_succ, List.getElem_cons_zero, List.setIfInBounds_toArray, List.set_cons_zero, List.set_cons_succ]
    refine' wpAnyH_take (i := 19) (v := .pointer (some ⟨b, t * 18 + 16, none⟩)) rfl (by kernel_rfl) (by kernel_rfl) (by kernel_rfl) (fun _ _ _ h => h) (Or.inl ⟨by rfl, fun W h => by go_simp⟩) ⟨q0, q7, qe⟩ ?_
    try simp only [Act.put, List.getElem_toArray, List.getElem_cons_succ, List.getElem_cons_zero, List.setIfInBounds_toArray, List.set_cons_zero, List.set_cons_succ]
    refine wpAnyH_ready (rs := [20]) (by kernel_rfl) (by simp) ?_
    refine AllReadyH.cons rfl (fun K hK => ?_) AllReadyH.nil
    go_simp
    refine hK.out _ _ ⟨by go_simp, by go_simp, by go_simp⟩ (fun hHeld => ?_)
    clear hK K hHeld q0 q7 qe q16 f16
    try simp only [Act.put, List.getElem_toArray, List.getElem_cons_succ, List.getElem_cons_zero, List.setIfInBounds_toArray, List.set_cons_zero, List.set_cons_succ]
    refine wpAnyH_done (by kernel_rfl) ?_ _
    go_upto_region 1 with fail
    obtain ⟨κ1, hp1, hm1⟩ := HN.out
    refine wp_gen (fun X => PJ X κ1 g b cap vt t s { r with keys := r.keys ++ [z] } (.slice (some ⟨cb, 0, none⟩) 71 cc) vl ∧ Mv κ κ1 w X) ⟨hp1, HM.out.trans hm1⟩ ?_
    clear HN hp1 hm1 HP HM
    rintro X ⟨hp, hm⟩
    have HP := Lib.hid hp
    have HM := Lib.hid hm
    clear hp hm
    have c7 : X.cell? ⟨b, t * 18 + 7, none⟩ = some (.int .i64 r.k) := HP.out.jc 7 rfl
    have f7 : X.frozen? ⟨b, t * 18 + 7, none⟩ = false := HP.out.jf _
    have c6 : X.cell? ⟨b, t * 18 + 6, none⟩ = some (.int .i64 r.pc) := HP.out.jc 6 rfl
    have f6 : X.frozen? ⟨b, t * 18 + 6, none⟩ = false := HP.out.jf _
    have h1 := HP.out.fld 7 (by decide) (r' := { r with keys := r.keys ++ [z], k := r.k + 1 }) (.int .i64 (r.k + 1)) rfl rfl
    by_cases h4 : r.k + 1 = 4
    · have d4 : (r.k + 1 == 4) = true := by rw [beq_iff_eq]; exact h4
      replace HQ := Lib.hid (HQ.out.trans (by rw [if_pos h4]))
      clear h4
      have h5 := (h1.1).fld 7 (by decide) (r' := { r with keys := r.keys ++ [z], k := 0 }) (.int .i64 (0)) rfl rfl
      have h6 := (h5.1).fld 6 (by decide) (r' := { r with keys := r.keys ++ [z], k := 0, pc := 15 }) (.int .i64 (15)) rfl rfl
      have HF := Lib.hid h6.1
      have HG := Lib.hid (((HM.out.trans h1.2).trans h5.2).trans h6.2)
      clear h1 HP HM h5 h6
      go_wp2_with fail
      go_end0
      rw [HQ.out]
      exact ⟨rfl, κ1, _, vl, HF.out, HG.out⟩
    · have d4 : (r.k + 1 == 4) = false := by rw [beq_eq_false_iff_ne]; exact h4
      replace HQ := Lib.hid (HQ.out.trans (by rw [if_neg h4]))
      clear h4
      have HF := Lib.hid h1.1
      have HG := Lib.hid (HM.out.trans h1.2)
      clear h1 HP HM
      go_wp2_with fail
      go_end0
      rw [HQ.out]
      exact ⟨rfl, κ1, _, vl, HF.out, HG.out⟩
  · skip
    go_simp
    refine (HKC _).out.mono ?_
    rintro e W9 ⟨rfl, rfl⟩
    refine hK.out _ _ ⟨HP.out.blk.get 0, HP.out.jc 7 rfl, (HZ.out ▸ HP.out.cc HL.out m hm71)⟩ (fun hHeld => ?_)
    clear hK K hHeld
    try simp only [Act.put, List.getElem_toArray, List.getElem_cons_succ, List.getElem_cons_zero, List.setIfInBounds_toArray, List.set_cons_zero, List.set_cons_succ]
    refine' wpAnyH_take (i := 14) (v := .pointer (some ⟨cb, m, none⟩)) rfl (by kernel_rfl) (by kernel_rfl) (by kernel_rfl) (fun _ _ _ h => h) (Or.inl ⟨by rfl, fun W h => by go_simp⟩) ⟨HP.out.blk.get 0, HP.out.jc 7 rfl, (HZ.out ▸ HP.out.cc HL.out m hm71)⟩ ?_
    try simp only [Act.put, List.getElem_toArray, List.getElem_cons_succ, List.getElem_cons_zero, List.setIfInBounds_toArray, List.set_cons_zero, List.set_cons_succ]
    refine' wpAnyH_take (i := 15) (v := .int .i64 z) rfl (by kernel_rfl) (by kernel_rfl) (by kernel_rfl) (fun _ _ _ h => h) (Or.inl ⟨by rfl, fun W h => by have q : W.cell? ⟨cb, m, none⟩ = some (.int .i64 z) := h.2.2; go_simp⟩) ⟨HP.out.blk.get 0, HP.out.jc 7 rfl, (HZ.out ▸ HP.out.cc HL.out m hm71)⟩ ?_
    try simp only [Act.put, List.getElem_toArray, List.getElem_cons_succ, List.getElem_cons_zero, List.setIfInBounds_toArray, List.set_cons_zero, List.set_cons_succ]
    refine wpAnyH_ready (rs := [4, 16]) (by kernel_rfl) (by simp) ?_
    refine AllReadyH.cons rfl (fun K hK => ?_) (AllReadyH.cons rfl (fun K hK => ?_) AllReadyH.nil)
    · skip
      have q9 : X0.cell? ⟨b, t * 18 + 16, none⟩ = some (.slice Ak r.keys.length ck) := HRK.out
      go_simp
      refine hK.out _ _ ⟨HP.out.blk.get 0, HP.out.jc 7 rfl, (HZ.out ▸ HP.out.cc HL.out m hm71)⟩ (fun hHeld => ?_)
      clear hK K hHeld q9
      try simp only [Act.put, List.getElem_toArray, List.getElem_cons_succ, List.getElem_cons_zero, List.setIfInBounds_toArray, List.set_cons_zero, List.set_cons_succ]
      refine wpAnyH_ready (rs := [16]) (by kernel_rfl) (by simp) ?_
      refine AllReadyH.cons rfl (fun K hK => ?_) AllReadyH.nil
      go_simp
      have hb := below_oneL X0 (.cells #[.int .i64 z] 3)
      have hnew := Blk.new X0 X0.heap.size 3 #[.int .i64 z] rfl
      have hsz1 : (X0.alloc (.cells #[.int .i64 z] 3)).heap.size = X0.heap.size + 1 := by simp [go_sem]
      have hlt16 := cell_lt HRK.out
      replace HRK := Lib.hid ((hb.cell (p := ⟨b, t * 18 + 16, none⟩) hlt16).trans HRK.out)
      replace HOK := Lib.hid (World.ownsRow.alloc HOK.out (.cells #[.int .i64 z] 3))
      replace HM := Lib.hid (HM.out.thn (hb.mono HM.out.size))
      replace HP := Lib.hid (HP.out.below hb)
      refine hK.out _ _ ⟨HP.out.blk.get 0, HP.out.jc 7 rfl, (HZ.out ▸ HP.out.cc HL.out m hm71)⟩ (fun hHeld => ?_)
      clear hK K hHeld hb
      try simp only [Act.put, List.getElem_toArray, List.getElem_cons_succ, List.getElem_cons_zero, List.setIfInBounds_toArray, List.set_cons_zero, List.set_cons_succ]
      generalize X0.alloc (.cells #[.int .i64 z] 3) = X1 at *
      refine wpAnyH_ready (rs := [17]) (by kernel_rfl) (by simp) ?_
      refine AllReadyH.cons rfl (fun K hK => ?_) AllReadyH.nil
      rw [if_pos (by rfl)]
      refine wp_append_at _ _ 25 rfl 0 3 i0 (.int .i64 0) 1 8 Tryz.underlying25 hi0 hz0 hz1 hz2 rfl (by decide) (.slice Ak r.keys.length ck) r.keys.length (r.keys.map (Value.int .i64)) rfl HOK.out ⟨X0.heap.size, 0, none⟩ 1 1 [.int .i64 z] rfl rfl ?_ ?_ (by unfold maxLen; omega) (by omega) (Nat.zero_le _) ?_
      · intro k u hk; rw [Addr.add_lit, Nat.zero_add, hnew.get k]; simpa using hk
      · intro u hu; rw [List.mem_singleton.1 hu]; rfl
      intro v' X2 hown hgrow hblk
      have hmid := HP.out.mid 16 (by decide) rfl HRK.out hgrow
      have hmap : r.keys.map (Value.int .i64) ++ [.int .i64 z] = (r.keys ++ [z]).map (Value.int .i64) := by simp
      rw [hmap] at hown
      have hlk : r.keys.length + 1 = (r.keys ++ [z]).length := by simp
      rw [hlk] at hown
      obtain ⟨Av, cv, rfl⟩ := Rw.slice (show (⟨v', 3, 1, (r.keys ++ [z]).length, (r.keys ++ [z]).map (Value.int .i64)⟩ : Rw).own X2 0 from hown)
      have HN := Lib.hid (HP.out.grow 16 (by decide) (r' := { r with keys := r.keys ++ [z] }) rfl HRK.out rfl hgrow hown (by rcases hblk with h | h; exact .inl h; exact .inr (fun k hk => by have e := Option.some.inj (h.symm.trans hk); omega)))
      have hlk2 : (r.keys ++ [z]).length = r.keys.length + 1 := by simp
      rw [hlk2] at HN ⊢
      have q0 : X2.cell? ⟨g, 0, none⟩ = some (.slice (some ⟨cb, 0, none⟩) 71 cc) := hmid.1.get 0
      have q7 : X2.cell? ⟨b, t * 18 + 7, none⟩ = some (.int .i64 r.k) := (hmid.2.1 7 (by decide)).trans (HP.out.jc 7 rfl)
      have qe : X2.cell? ⟨cb, m, none⟩ = some (.int .i64 z) := (hmid.2.2.2 cb m HP.out.cb1).trans (HZ.out ▸ HP.out.cc HL.out m hm71)
      have q16 : X2.cell? ⟨b, t * 18 + 16, none⟩ = some (.slice Ak r.keys.length ck) := (hmid.2.1 16 (by decide)).trans HRK.out
      have f16 : X2.frozen? ⟨b, t * 18 + 16, none⟩ = false := hmid.2.2.1 _
      have hgb := HP.out.gb
      have hcbb : cb ≠ b := HP.out.cbb
      refine hK.out _ _ ⟨q0, q7, qe⟩ (fun hHeld => ?_)
      clear hK K hHeld hown hgrow hblk hmid hnew hmap hlk hlk2 HRK HOK
      try simp only [Act.put, List.getElem_toArray, List.getElem_cons_succ, List.getElem_cons_zero, List.setIfInBounds_toArray, List.set_cons_zero, List.set_cons_succ]
      refine' wpAnyH_take (i := 18) (v := .pointer (some ⟨b, t * 18, none⟩)) rfl (by kernel_rfl) (by kernel_rfl) (by kernel_rfl) (fun _ _ _ h => h) (Or.inl ⟨by rfl, fun W h => by go_simp⟩) ⟨q0, q7, qe⟩ ?_
      try simp only [Act.put, List.getElem_toArray, List.getElem_cons_succ, List.getElem_cons_zero, List.setIfInBounds_toArray, List.set_cons_zero, List.set_cons_succ]
      refine' wpAnyH_take (i := 19) (v := .pointer (some ⟨b, t * 18 + 16, none⟩)) rfl (by kernel_rfl) (by kernel_rfl) (by kernel_rfl) (fun _ _ _ h => h) (Or.inl ⟨by rfl, fun W h => by go_simp⟩) ⟨q0, q7, qe⟩ ?_
      try simp only [Act.put, List.getElem_toArray, List.getElem_cons_succ, List.getElem_cons_zero, List.setIfInBounds_toArray, List.set_cons_zero, List.set_cons_succ]
      refine wpAnyH_ready (rs := [20]) (by kernel_rfl) (by simp) ?_
      refine AllReadyH.cons rfl (fun K hK => ?_) AllReadyH.nil
      go_simp
      refine hK.out _ _ ⟨by go_simp, by go_simp, by go_simp⟩ (fun hHeld => ?_)
      clear hK K hHeld q0 q7 qe q16 f16
      try simp only [Act.put, List.getElem_toArray, List.getElem_cons_succ, List.getElem_cons_zero, List.setIfInBounds_toArray, List.set_cons_zero, List.set_cons_succ]
      refine wpAnyH_done (by kernel_rfl) ?_ _
      go_upto_region 1 with fail
      obtain ⟨κ1, hp1, hm1⟩ := HN.out
      refine wp_gen (fun X => PJ X κ1 g b cap vt t s { r with keys := r.keys ++ [z] } (.slice (some ⟨cb, 0, none⟩) 71 cc) vl ∧ Mv κ κ1 w X) ⟨hp1, HM.out.trans hm1⟩ ?_
      clear HN hp1 hm1 HP HM
      rintro X ⟨hp, hm⟩
      have HP := Lib.hid hp
      have HM := Lib.hid hm
      clear hp hm
      have c7 : X.cell? ⟨b, t * 18 + 7, none⟩ = some (.int .i64 r.k) := HP.out.jc 7 rfl
      have f7 : X.frozen? ⟨b, t * 18 + 7, none⟩ = false := HP.out.jf _
      have c6 : X.cell? ⟨b, t * 18 + 6, none⟩ = some (.int .i64 r.pc) := HP.out.jc 6 rfl
      have f6 : X.frozen? ⟨b, t * 18 + 6, none⟩ = false := HP.out.jf _
      have h1 := HP.out.fld 7 (by decide) (r' := { r with keys := r.keys ++ [z], k := r.k + 1 }) (.int .i64 (r.k + 1)) rfl rfl
      by_cases h4 : r.k + 1 = 4
      · have d4 : (r.k + 1 == 4) = true := by rw [beq_iff_eq]; exact h4
        replace HQ := Lib.hid (HQ.out.trans (by rw [if_pos h4]))
        clear h4
        have h5 := (h1.1).fld 7 (by decide) (r' := { r with keys := r.keys ++ [z], k := 0 }) (.int .i64 (0)) rfl rfl
        have h6 := (h5.1).fld 6 (by decide) (r' := { r with keys := r.keys ++ [z], k := 0, pc := 15 }) (.int .i64 (15)) rfl rfl
        have HF := Lib.hid h6.1
        have HG := Lib.hid (((HM.out.trans h1.2).trans h5.2).trans h6.2)
        clear h1 HP HM h5 h6
        go_wp2_with fail
        go_end0
        rw [HQ.out]
        exact ⟨rfl, κ1, _, vl, HF.out, HG.out⟩
      · have d4 : (r.k + 1 == 4) = false := by rw [beq_eq_false_iff_ne]; exact h4
        replace HQ := Lib.hid (HQ.out.trans (by rw [if_neg h4]))
        clear h4
        have HF := Lib.hid h1.1
        have HG := Lib.hid (HM.out.trans h1.2)
        clear h1 HP HM
        go_wp2_with fail
        go_end0
        rw [HQ.out]
        exact ⟨rfl, κ1, _, vl, HF.out, HG.out⟩
    · skip
      go_simp
      have hb := below_oneL X0 (.cells #[.int .i64 z] 3)
      have hnew := Blk.new X0 X0.heap.size 3 #[.int .i64 z] rfl
      have hsz1 : (X0.alloc (.cells #[.int .i64 z] 3)).heap.size = X0.heap.size + 1 := by simp [go_sem]
      have hlt16 := cell_lt HRK.out
      replace HRK := Lib.hid ((hb.cell (p := ⟨b, t * 18 + 16, none⟩) hlt16).trans HRK.out)
      replace HOK := Lib.hid (World.ownsRow.alloc HOK.out (.cells #[.int .i64 z] 3))
      replace HM := Lib.hid (HM.out.thn (hb.mono HM.out.size))
      replace HP := Lib.hid (HP.out.below hb)
      refine hK.out _ _ ⟨HP.out.blk.get 0, HP.out.jc 7 rfl, (HZ.out ▸ HP.out.cc HL.out m hm71)⟩ (fun hHeld => ?_)
      clear hK K hHeld hb
      try simp only [Act.put, List.getElem_toArray, List.getElem_cons_succ, List.getElem_cons_zero, List.setIfInBounds_toArray, List.set_cons_zero, List.set_cons_succ]
      generalize X0.alloc (.cells #[.int .i64 z] 3) = X1 at *
      refine wpAnyH_ready (rs := [4]) (by kernel_rfl) (by simp) ?_
      refine AllReadyH.cons rfl (fun K hK => ?_) AllReadyH.nil
      have q9 : X1.cell? ⟨b, t * 18 + 16, none⟩ = some (.slice Ak r.keys.length ck) := HRK.out
      go_simp
      refine hK.out _ _ ⟨HP.out.blk.get 0, HP.out.jc 7 rfl, (HZ.out ▸ HP.out.cc HL.out m hm71)⟩ (fun hHeld => ?_)
      clear hK K hHeld q9
      try simp only [Act.put, List.getElem_toArray, List.getElem_cons_succ, List.getElem_cons_zero, List.setIfInBounds_toArray, List.set_cons_zero, List.set_cons_succ]
      refine wpAnyH_ready (rs := [17]) (by kernel_rfl) (by simp) ?_
      refine AllReadyH.cons rfl (fun K hK => ?_) AllReadyH.nil
      rw [if_pos (by rfl)]
      refine wp_append_at _ _ 25 rfl 0 3 i0 (.int .i64 0) 1 8 Tryz.underlying25 hi0 hz0 hz1 hz2 rfl (by decide) (.slice Ak r.keys.length ck) r.keys.length (r.keys.map (Value.int .i64)) rfl HOK.out ⟨X0.heap.size, 0, none⟩ 1 1 [.int .i64 z] rfl rfl ?_ ?_ (by unfold maxLen; omega) (by omega) (Nat.zero_le _) ?_
      · intro k u hk; rw [Addr.add_lit, Nat.zero_add, hnew.get k]; simpa using hk
      · intro u hu; rw [List.mem_singleton.1 hu]; rfl
      intro v' X2 hown hgrow hblk
      have hmid := HP.out.mid 16 (by decide) rfl HRK.out hgrow
      have hmap : r.keys.map (Value.int .i64) ++ [.int .i64 z] = (r.keys ++ [z]).map (Value.int .i64) := by simp
      rw [hmap] at hown
      have hlk : r.keys.length + 1 = (r.keys ++ [z]).length := by simp
      rw [hlk] at hown
      obtain ⟨Av, cv, rfl⟩ := Rw.slice (show (⟨v', 3, 1, (r.keys ++ [z]).length, (r.keys ++ [z]).map (Value.int .i64)⟩ : Rw).own X2 0 from hown)
      have HN := Lib.hid (HP.out.grow 16 (by decide) (r' := { r with keys := r.keys ++ [z] }) rfl HRK.out rfl hgrow hown (by rcases hblk with h | h; exact .inl h; exact .inr (fun k hk => by have e := Option.some.inj (h.symm.trans hk); omega)))
      have hlk2 : (r.keys ++ [z]).length = r.keys.length + 1 := by simp
      rw [hlk2] at HN ⊢
      have q0 : X2.cell? ⟨g, 0, none⟩ = some (.slice (some ⟨cb, 0, none⟩) 71 cc) := hmid.1.get 0
      have q7 : X2.cell? ⟨b, t * 18 + 7, none⟩ = some (.int .i64 r.k) := (hmid.2.1 7 (by decide)).trans (HP.out.jc 7 rfl)
      have qe : X2.cell? ⟨cb, m, none⟩ = some (.int .i64 z) := (hmid.2.2.2 cb m HP.out.cb1).trans (HZ.out ▸ HP.out.cc HL.out m hm71)
      have q16 : X2.cell? ⟨b, t * 18 + 16, none⟩ = some (.slice Ak r.keys.length ck) := (hmid.2.1 16 (by decide)).trans HRK.out
      have f16 : X2.frozen? ⟨b, t * 18 + 16, none⟩ = false := hmid.2.2.1 _
      have hgb := HP.out.gb
      have hcbb : cb ≠ b := HP.out.cbb
      refine hK.out _ _ ⟨q0, q7, qe⟩ (fun hHeld => ?_)
      clear hK K hHeld hown hgrow hblk hmid hnew hmap hlk hlk2 HRK HOK
      try simp only [Act.put, List.getElem_toArray, List.getElem_cons_succ, List.getElem_cons_zero, List.setIfInBounds_toArray, List.set_cons_zero, List.set_cons_succ]
      refine' wpAnyH_take (i := 18) (v := .pointer (some ⟨b, t * 18, none⟩)) rfl (by kernel_rfl) (by kernel_rfl) (by kernel_rfl) (fun _ _ _ h => h) (Or.inl ⟨by rfl, fun W h => by go_simp⟩) ⟨q0, q7, qe⟩ ?_
      try simp only [Act.put, List.getElem_toArray, List.getElem_cons_succ, List.getElem_cons_zero, List.setIfInBounds_toArray, List.set_cons_zero, List.set_cons_succ]
      refine' wpAnyH_take (i := 19) (v := .pointer (some ⟨b, t * 18 + 16, none⟩)) rfl (by kernel_rfl) (by kernel_rfl) (by kernel_rfl) (fun _ _ _ h => h) (Or.inl ⟨by rfl, fun W h => by go_simp⟩) ⟨q0, q7, qe⟩ ?_
      try simp only [Act.put, List.getElem_toArray, List.getElem_cons_succ, List.getElem_cons_zero, List.setIfInBounds_toArray, List.set_cons_zero, List.set_cons_succ]
      refine wpAnyH_ready (rs := [20]) (by kernel_rfl) (by simp) ?_
      refine AllReadyH.cons rfl (fun K hK => ?_) AllReadyH.nil
      go_simp
      refine hK.out _ _ ⟨by go_simp, by go_simp, by go_simp⟩ (fun hHeld => ?_)
      clear hK K hHeld q0 q7 qe q16 f16
      try simp only [Act.put, List.getElem_toArray, List.getElem_cons_succ, List.getElem_cons_zero, List.setIfInBounds_toArray, List.set_cons_zero, List.set_cons_succ]
      refine wpAnyH_done (by kernel_rfl) ?_ _
      go_upto_region 1 with fail
      obtain ⟨κ1, hp1, hm1⟩ := HN.out
      refine wp_gen (fun X => PJ X κ1 g b cap vt t s { r with keys := r.keys ++ [z] } (.slice (some ⟨cb, 0, none⟩) 71 cc) vl ∧ Mv κ κ1 w X) ⟨hp1, HM.out.trans hm1⟩ ?_
      clear HN hp1 hm1 HP HM
      rintro X ⟨hp, hm⟩
      have HP := Lib.hid hp
      have HM := Lib.hid hm
      clear hp hm
      have c7 : X.cell? ⟨b, t * 18 + 7, none⟩ = some (.int .i64 r.k) := HP.out.jc 7 rfl
      have f7 : X.frozen? ⟨b, t * 18 + 7, none⟩ = false := HP.out.jf _
      have c6 : X.cell? ⟨b, t * 18 + 6, none⟩ = some (.int .i64 r.pc) := HP.out.jc 6 rfl
      have f6 : X.frozen? ⟨b, t * 18 + 6, none⟩ = false := HP.out.jf _
      have h1 := HP.out.fld 7 (by decide) (r' := { r with keys := r.keys ++ [z], k := r.k + 1 }) (.int .i64 (r.k + 1)) rfl rfl
      by_cases h4 : r.k + 1 = 4
      · have d4 : (r.k + 1 == 4) = true := by rw [beq_iff_eq]; exact h4
        replace HQ := Lib.hid (HQ.out.trans (by rw [if_pos h4]))
        clear h4
        have h5 := (h1.1).fld 7 (by decide) (r' := { r with keys := r.keys ++ [z], k := 0 }) (.int .i64 (0)) rfl rfl
        have h6 := (h5.1).fld 6 (by decide) (r' := { r with keys := r.keys ++ [z], k := 0, pc := 15 }) (.int .i64 (15)) rfl rfl
        have HF := Lib.hid h6.1
        have HG := Lib.hid (((HM.out.trans h1.2).trans h5.2).trans h6.2)
        clear h1 HP HM h5 h6
        go_wp2_with fail
        go_end0
        rw [HQ.out]
        exact ⟨rfl, κ1, _, vl, HF.out, HG.out⟩
      · have d4 : (r.k + 1 == 4) = false := by rw [beq_eq_false_iff_ne]; exact h4
        replace HQ := Lib.hid (HQ.out.trans (by rw [if_neg h4]))
        clear h4
        have HF := Lib.hid h1.1
        have HG := Lib.hid (HM.out.trans h1.2)
        clear h1 HP HM
        go_wp2_with fail
        go_end0
        rw [HQ.out]
        exact ⟨rfl, κ1, _, vl, HF.out, HG.out⟩
end Go.Proofs.YtnlepnfdgdbkoaaGreatDoor
