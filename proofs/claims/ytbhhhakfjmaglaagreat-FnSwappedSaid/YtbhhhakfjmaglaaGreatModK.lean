/-
  The exact laws' marks on a model, and the look whether they are held.
-/
import Derived.Test.YtbhhhakfjmaglaaGreatZc
import Derived.Test.YtbhhhakfjmaglaaGreatZb
import Derived.Test.YtbhhhakfjmaglaaGreatRowK
namespace Go.Proofs.YtbhhhakfjmaglaaGreat
open Go.RowKit M
set_option linter.unusedVariables false
set_option linter.unusedSimpArgs false
theorem OwnF.keptA {α : Type} {t : TypeId} {F : Nat} {c : α → Array Value} {w w' : World} {base : Nat} {v u : Value} {l : List α} (h : OwnF t F c w base v l) (hg : w.grownBy w' u.ownBlock) (ha : Ap v u) : OwnF t F c w' base v l := h.kept hg ha
/-- The blocks of a model's two rows. -/
def MoBl (vk vr : Value) (i : Nat) : Prop := vk.ownBlock = some i ∨ vr.ownBlock = some i
theorem notMoBl {v vk vr : Value} (h1 : Ap v vk) (h2 : Ap v vr) : ∀ k, v.ownBlock = some k → ¬ MoBl vk vr k := by
  intro k hk hb
  rcases hb with e | e
  · rcases h1 with h | h
    · rw [hk] at h; cases h
    · exact h (hk.trans e.symm)
  · rcases h2 with h | h
    · rw [hk] at h; cases h
    · exact h (hk.trans e.symm)
def markMo (k : Int) (m : Mo) : Mo := ⟨marksKRow k m.keys.length, marksRow (k + 2 * (m.keys.length : Int)) m.rows.length⟩
def MarkedMo (w : World) (base : Nat) (vk vr : Value) (k : Int) (m : Mo) (e : Ending) (w' : World) : Prop := e = .returned (.int .i64 (k + 2 * (m.keys.length : Int) + 10 * (m.rows.length : Int))) ∧ MoOwn w' base (markMo k m) vk vr ∧ Chg (MoBl vk vr) w w'
theorem ne_new {w : World} {v : Value} (h : ∀ k, v.ownBlock = some k → k < w.heap.size) : v.ownBlock ≠ some w.heap.size := fun e => Nat.lt_irrefl _ (h _ e)
set_option maxRecDepth 100000 in
set_option maxHeartbeats 4000000 in
theorem markModel_any (w : World) (base : Nat) (m : Mo) (vk vr : Value) (k : Int) (h : MoOwn w base m vk vr) (hk : m.keys.length ≤ 1048576) (hr : m.rows.length ≤ 1048576) (hk0 : 1 ≤ k) (hk1 : k ≤ 900000000000) : Calls Tryz.prog 25 #[.agg #[vk, vr], .int .i64 k] w (MarkedMo w base vk vr k m) := by
  have HO := Lib.hid h
  have NK := Lib.hid (ne_new h.keys.lt)
  have NR := Lib.hid (ne_new h.rows.lt)
  have CK := fun W h => Lib.hid (markKRowS_any W base vk m.keys k h hk hk0 (by omega))
  have CR := fun W h => Lib.hid (markRowS_any W base vr m.rows (k + 2 * (m.keys.length : Int)) h hr (by omega) (by omega))
  clear h hk hr
  go_enter Tryz.func25, Tryz.ntmps25
  go_upto_region 1 with fail
  refine wp_gen (fun W => Blk W w.heap.size 27 #[vk, vr] ∧ Below w.heap.size w W) ⟨Blk.new w _ _ _ rfl, (Below.refl _ _).alloc (Nat.le_refl _) _⟩ ?_
  rintro W ⟨g0, hb⟩
  have G0 := Lib.hid g0
  have HB := Lib.hid hb
  have HO1 := Lib.hid (HO.out.below hb)
  have q0 := g0.get 0
  simp at q0
  clear g0 hb HO
  go_wp2_with fail
  refine (CK _ HO1.out.keys).out.mono ?_
  rintro e w1 ⟨rfl, hm, hg⟩
  have HM := Lib.hid hm
  have HR1 := Lib.hid (HO1.out.rows.keptA hg (Ap.symm HO1.out.ap))
  have HAP := Lib.hid HO1.out.ap
  have g1 := G0.out.grown hg NK.out
  have HC := Lib.hid ((Chg.of_below (S := MoBl vk vr) HB.out).trans (Chg.of_grown hg fun i hi => .inl hi))
  have q1 := g1.get 1
  simp at q1
  clear hm hg g1 G0 HB HO1 CK q0
  go_wp2_with fail
  refine (CR _ HR1.out).out.mono ?_
  rintro e w2 ⟨rfl, hm, hg⟩
  have HM2 := Lib.hid hm
  have HK2 := Lib.hid (show OwnF 40 2 krCells w2 base vk (marksKRow k m.keys.length) from OwnF.keptA HM.out hg HAP.out)
  have HC2 := Lib.hid (HC.out.trans (Chg.of_grown hg fun i hi => .inr hi))
  clear hm hg HC HM HR1 CR q1
  go_wp2_with fail
  go_ret
  exact ⟨rfl, ⟨HK2.out, HM2.out, HAP.out⟩, HC2.out⟩
set_option maxRecDepth 100000 in
set_option maxHeartbeats 4000000 in
theorem heldModel_any (w : World) (base : Nat) (m : Mo) (vk vr : Value) (k : Int) (h : MoOwn w base (markMo k m) vk vr) (hk : m.keys.length ≤ 1048576) (hr : m.rows.length ≤ 1048576) (hk0 : 1 ≤ k) (hk1 : k ≤ 900000000000) : Calls Tryz.prog 27 #[.agg #[vk, vr], .int .i64 k] w (Gives (.int .i64 (k + 2 * (m.keys.length : Int) + 10 * (m.rows.length : Int))) w) := by
  have HO := Lib.hid h
  have CK := fun W h => Lib.hid (heldKRowS_any W base vk k m.keys.length h hk0 (by omega) hk)
  have CR := fun W h => Lib.hid (heldRowS_any W base vr (k + 2 * (m.keys.length : Int)) m.rows.length h (by omega) (by omega) hr)
  have d1 : decide (k + 2 * (m.keys.length : Int) < 0) = false := by rw [decide_eq_false_iff_not]; omega
  have d2 : decide (k + 2 * (m.keys.length : Int) + 10 * (m.rows.length : Int) < 0) = false := by rw [decide_eq_false_iff_not]; omega
  clear h hk hr
  go_enter Tryz.func27, Tryz.ntmps27
  go_upto_region 1 with fail
  refine wp_gen (fun W => Blk W w.heap.size 27 #[vk, vr] ∧ Below w.heap.size w W) ⟨Blk.new w _ _ _ rfl, (Below.refl _ _).alloc (Nat.le_refl _) _⟩ ?_
  rintro W ⟨g0, hb⟩
  have G0 := Lib.hid g0
  have HB := Lib.hid hb
  have HO1 := Lib.hid (HO.out.below hb)
  have q0 := g0.get 0
  simp at q0
  clear g0 hb HO
  go_wp2_with fail
  refine (CK _ HO1.out.keys).out.mono ?_
  rintro e w1 ⟨rfl, hb⟩
  have HO2 := Lib.hid (HO1.out.below hb)
  have g1 := G0.out.below hb
  have q1 := g1.get 1
  simp at q1
  replace HB := Lib.hid (HB.out.trans (hb.mono HB.out.size))
  clear hb g1 G0 HO1 CK q0
  go_wp2_with fail
  refine (CR _ HO2.out.rows).out.mono ?_
  rintro e w2 ⟨rfl, hb⟩
  replace HB := Lib.hid (HB.out.trans (hb.mono HB.out.size))
  clear hb HO2 CR q1
  go_wp2_with fail
  go_ret
  exact ⟨rfl, HB.out⟩
end Go.Proofs.YtbhhhakfjmaglaaGreat
