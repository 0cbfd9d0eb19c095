/-
  Chapter 5's draws, told in less: some text and some kind; two numbers.
-/
import Derived.Test.YtcgjbfalandffaaDoorDrawK
namespace Go.Proofs.YtcgjbfalandffaaDoor
open Go.RowKit M
set_option linter.unusedVariables false
theorem l5Kind_some (w : World) (g : Nat) (K : Code) (s : St) (c : Cur w g K s) : Calls Tryd.prog 19 #[.pointer (some ⟨g, 0, none⟩)] w (SomeI w g K fun x => 0 ≤ x ∧ x ≤ 4) := by
  have HC := Lib.hid c
  clear c
  go_enter Tryd.func19, Tryd.ntmps19
  go_wp2_with fail
  refine (pick_some w g K s HC.out [1, 2, 3, 1, 2, 3, 1, 2, 3, 0, 4] 11 rfl (by decide) (by decide) _ rfl).mono ?_
  rintro e w1 ⟨x, s1, hx, rfl, hc1, hg1⟩
  have X : 0 ≤ x ∧ x ≤ 4 := by simp at hx; omega
  have C1 := Lib.hid hc1
  have G1 := Lib.hid hg1
  clear hx hc1 hg1
  go_wp2_with fail
  go_ret
  exact ⟨x, s1, X, rfl, C1.out, G1.out⟩
/-- Some text and some kind; nothing that was there is turned. -/
def GivesTI (w : World) (e : Ending) (w' : World) : Prop := ∃ (x : ByteArray) (k : Int), x.size ≤ 5 ∧ (0 ≤ k ∧ k ≤ 4) ∧ e = .returned (.tuple #[.string x, .int .i64 k]) ∧ Below w.heap.size w w'
theorem drawTagged_some (w : World) (K : Code) (hk : CodeIn w K) (hl : K.len ≤ 1048576) : Calls Tryd.prog 6 #[.slice K.A K.len K.cap] w (GivesTI w) := by
  have HN := Lib.hid (new_any w K hk hl)
  clear hk hl
  go_enter Tryd.func6, Tryd.ntmps6
  go_wp2_with fail
  refine HN.out.mono ?_
  rintro e w1 ⟨g, rfl, hg, hc, hb⟩
  have H1 := Lib.hid (l4Any_some w1 g K _ hc)
  have HB := Lib.hid (fun w2 h2 => behind (w2 := w2) hg hb h2)
  clear hc hb hg
  go_wp2_with fail
  refine H1.out.mono ?_
  rintro e w2 ⟨x, s2, hx, rfl, hc2, hg2⟩
  have X := Lib.hid hx
  have C2 := Lib.hid hc2
  have G2 := Lib.hid hg2
  clear hx hc2 hg2
  go_wp2_with fail
  refine (l5Kind_some w2 g K s2 C2.out).mono ?_
  rintro e w3 ⟨k, s3, hk3, rfl, hc3, hg3⟩
  have KK := Lib.hid hk3
  have G3 := Lib.hid (HB.out w3 (grown_trans G2.out hg3))
  clear hk3 hc3 hg3
  go_wp2_with fail
  go_ret2
  exact ⟨x, k, X.out, KK.out, rfl, G3.out⟩
/-- Two numbers; nothing that was there is turned. -/
def GivesII (w : World) (e : Ending) (w' : World) : Prop := ∃ a b : Int, (-1 ≤ a ∧ a ≤ 65536) ∧ (-1 ≤ b ∧ b ≤ 65536) ∧ e = .returned (.tuple #[.int .i64 a, .int .i64 b]) ∧ Below w.heap.size w w'
theorem drawPackGauge_some (w : World) (K : Code) (hk : CodeIn w K) (hl : K.len ≤ 1048576) : Calls Tryd.prog 10 #[.slice K.A K.len K.cap] w (GivesII w) := by
  have HN := Lib.hid (new_any w K hk hl)
  clear hk hl
  go_enter Tryd.func10, Tryd.ntmps10
  go_wp2_with fail
  refine HN.out.mono ?_
  rintro e w1 ⟨g, rfl, hg, hc, hb⟩
  have C1 := Lib.hid hc
  have HB := Lib.hid (fun w2 h2 => behind (w2 := w2) hg hb h2)
  clear hc hb hg
  go_wp2_with fail
  refine (pick_some w1 g K _ C1.out [1, 2, 65535, 0, 65536, 7] 6 rfl (by decide) (by decide) _ rfl).mono ?_
  rintro e w2 ⟨x, s2, hx, rfl, hc2, hg2⟩
  have X : -1 ≤ x ∧ x ≤ 65536 := by simp at hx; omega
  have C2 := Lib.hid hc2
  have G2 := Lib.hid hg2
  clear hx hc2 hg2
  go_wp2_with fail
  refine (pick_some w2 g K s2 C2.out [0, 65535, 65536, -1, 9] 5 rfl (by decide) (by decide) _ rfl).mono ?_
  rintro e w3 ⟨y, s3, hy, rfl, hc3, hg3⟩
  have Y : -1 ≤ y ∧ y ≤ 65536 := by simp at hy; omega
  have G3 := Lib.hid (HB.out w3 (grown_trans G2.out hg3))
  clear hy hc3 hg3
  go_wp2_with fail
  go_ret2
  exact ⟨x, y, X, Y, rfl, G3.out⟩
end Go.Proofs.YtcgjbfalandffaaDoor
