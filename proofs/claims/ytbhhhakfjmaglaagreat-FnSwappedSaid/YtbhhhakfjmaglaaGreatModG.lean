/-
  Chapter 13, the program: slices.Clone of a model's own keys and rows, nil ones too.
-/
import Derived.Test.YtbhhhakfjmaglaaGreatModC
import Derived.Test.YtbhhhakfjmaglaaGreatDrR
import Derived.Laws.AppendOwn
import Derived.Lib.SliceRun
import Derived.Lib.Walk
namespace Go.Proofs.YtbhhhakfjmaglaaGreat
open Go.RowKit M
set_option linter.unusedVariables false
set_option linter.unusedSimpArgs false
set_option maxRecDepth 100000 in
set_option maxHeartbeats 4000000 in
theorem iCloneK_own (w : World) (B : Nat) (v : Value) (l : List KR) (h : OwnF 40 2 krCells w B v l) (hl : l.length ≤ 1048576) : Calls Tryz.prog 34 #[v] w (MadeF 40 2 krCells w l) := by
  obtain ⟨i0, hi, hz0, hz1, hz2⟩ := info_parts info_KRow
  have h' := h
  rcases h.2 with ⟨rfl, h0⟩ | ⟨g, cap, cur, rfl, hb, hg, hn, hm, hc, ht⟩
  · obtain rfl : l = [] := List.length_eq_zero_iff.1 h0
    have hnil : ∀ (w : World), (binOp .eql 24 (.slice none 0 0) (.slice none 0 0)).run Tryz.prog w = .ok (.bool true) w := fun w => Lib.run_eql_slice_nil w _ _ none 0 0 0 0 Tryz.underlying24
    clear h h' hl hi hz0 hz1 hz2 h0
    go_enter Tryz.func34, Tryz.ntmps34
    go_wp2_with fail
    go_ret
    exact ⟨_, rfl, ⟨rfl, .inl ⟨rfl, rfl⟩⟩, Below.refl _ _⟩
  · have HO := Lib.hid (show w.ownsRow B 40 2 (.slice (some ⟨g, 0, none⟩) l.length cap) l.length (cellsF krCells l) from h')
    have hnil : ∀ (w : World), (binOp .eql 24 (.slice (some ⟨g, 0, none⟩) l.length cap) (.slice none 0 0)).run Tryz.prog w = .ok (.bool false) w := fun w => Lib.run_eql_slice_nil w _ _ (some ⟨g, 0, none⟩) l.length cap 0 0 Tryz.underlying24
    clear h h' hb hg hc ht
    go_enter Tryz.func34, Tryz.ntmps34
    go_wp2_with (at_builtin; refine wpList_append_own _ rfl _ _ 24 rfl w.heap.size 40 i0 zeroKR.v 2 24 Tryz.underlying24 hi hz0 hz1 hz2 rfl (by decide) _ _ _ rfl (World.ownsRow_made w #[] 0 (Nat.le_refl _) (Nat.zero_le _) rfl) ⟨g, 0, none⟩ l.length cap (cellsF krCells l) rfl ?qc1 ?qc2 ?qc3 ?qc4 ?qc5 ?qc6 ?_)
    case qc1 => exact HO.out.1
    case qc2 =>
      intro j u hj
      have hjn : j < l.length * 2 := by
        have := (List.getElem?_eq_some_iff.1 hj).1
        rwa [HO.out.1] at this
      have hcell : w.cell? ⟨g, j, none⟩ = some u := (World.ownsRow.cellAt HO.out j hjn).trans hj
      rw [Addr.add_lit, Nat.zero_add]
      exact Lib.cell?_alloc_some _ hcell
    case qc3 => exact kr_one l
    case qc4 => unfold maxLen; omega
    case qc5 => omega
    case qc6 => simp
    intro v' w1 hown hgrow hnil2
    have HV := Lib.hid hown
    have HG := Lib.hid hgrow
    clear hown hgrow hnil2 hnil hi hz0 hz1 hz2
    go_wp2
    go_ret
    have hv : w1.ownsRow w.heap.size 40 2 v' l.length (cellsF krCells l) := by simpa using HV.out
    have hb : Below w.heap.size w w1 := ((Below.refl _ w).alloc (Nat.le_refl _) _).grown HG.out (by simp) (by intro k hk; simp [Value.ownBlock] at hk; omega)
    exact ⟨v', rfl, hv, hb⟩
set_option maxRecDepth 100000 in
set_option maxHeartbeats 4000000 in
theorem iCloneR_own (w : World) (B : Nat) (v : Value) (l : List R) (h : OwnR w B v l) (hl : l.length ≤ 1048576) : Calls Tryz.prog 35 #[v] w (MadeR w l) := by
  obtain ⟨i0, hi, hz0, hz1, hz2⟩ := info_parts info_row
  have h' := h
  rcases h.2 with ⟨rfl, h0⟩ | ⟨g, cap, cur, rfl, hb, hg, hn, hm, hc, ht⟩
  · obtain rfl : l = [] := List.length_eq_zero_iff.1 h0
    have hnil : ∀ (w : World), (binOp .eql 25 (.slice none 0 0) (.slice none 0 0)).run Tryz.prog w = .ok (.bool true) w := fun w => Lib.run_eql_slice_nil w _ _ none 0 0 0 0 Tryz.underlying25
    clear h h' hl hi hz0 hz1 hz2 h0
    go_enter Tryz.func35, Tryz.ntmps35
    go_wp2_with fail
    go_ret
    exact ⟨_, rfl, ⟨rfl, .inl ⟨rfl, rfl⟩⟩, Below.refl _ _⟩
  · have HO := Lib.hid (show w.ownsRow B 42 10 (.slice (some ⟨g, 0, none⟩) l.length cap) l.length (cellsR l) from h')
    have hnil : ∀ (w : World), (binOp .eql 25 (.slice (some ⟨g, 0, none⟩) l.length cap) (.slice none 0 0)).run Tryz.prog w = .ok (.bool false) w := fun w => Lib.run_eql_slice_nil w _ _ (some ⟨g, 0, none⟩) l.length cap 0 0 Tryz.underlying25
    clear h h' hb hg hc ht
    go_enter Tryz.func35, Tryz.ntmps35
    go_wp2_with (at_builtin; refine wpList_append_own _ rfl _ _ 25 rfl w.heap.size 42 i0 zeroR.v 10 88 Tryz.underlying25 hi hz0 hz1 hz2 rfl (by decide) _ _ _ rfl (World.ownsRow_made w #[] 0 (Nat.le_refl _) (Nat.zero_le _) rfl) ⟨g, 0, none⟩ l.length cap (cellsR l) rfl ?qc1 ?qc2 ?qc3 ?qc4 ?qc5 ?qc6 ?_)
    case qc1 => exact HO.out.1
    case qc2 =>
      intro j u hj
      have hjn : j < l.length * 10 := by
        have := (List.getElem?_eq_some_iff.1 hj).1
        rwa [HO.out.1] at this
      have hcell : w.cell? ⟨g, j, none⟩ = some u := (World.ownsRow.cellAt HO.out j hjn).trans hj
      rw [Addr.add_lit, Nat.zero_add]
      exact Lib.cell?_alloc_some _ hcell
    case qc3 => exact cellsR_one l
    case qc4 => unfold maxLen; omega
    case qc5 => omega
    case qc6 => simp
    intro v' w1 hown hgrow hnil2
    have HV := Lib.hid hown
    have HG := Lib.hid hgrow
    clear hown hgrow hnil2 hnil hi hz0 hz1 hz2
    go_wp2
    go_ret
    have hv : w1.ownsRow w.heap.size 42 10 v' l.length (cellsR l) := by simpa using HV.out
    have hb : Below w.heap.size w w1 := ((Below.refl _ w).alloc (Nat.le_refl _) _).grown HG.out (by simp) (by intro k hk; simp [Value.ownBlock] at hk; omega)
    exact ⟨v', rfl, hv, hb⟩
end Go.Proofs.YtbhhhakfjmaglaaGreat
