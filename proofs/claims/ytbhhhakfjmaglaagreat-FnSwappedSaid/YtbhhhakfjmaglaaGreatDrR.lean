/-
  Chapter 8, the program's reportOf: rows cloned, the quiet ones struck, sorted by their keys, one of each key.
-/
import Derived.Test.YtbhhhakfjmaglaaGreatDrN
import Derived.Test.YtbhhhakfjmaglaaGreatDrU
namespace Go.Proofs.YtbhhhakfjmaglaaGreat
open Go.RowKit M
set_option linter.unusedVariables false
set_option linter.unusedSimpArgs false
/-- A call hands back a new row of rows of its own that is not nil. -/
def NewR (w : World) (rs : List R) (e : Ending) (w' : World) : Prop := ∃ g cap, e = .returned (.slice (some ⟨g, 0, none⟩) rs.length cap) ∧ OwnR w' w.heap.size (.slice (some ⟨g, 0, none⟩) rs.length cap) rs ∧ Below w.heap.size w w'
set_option maxRecDepth 100000 in
set_option maxHeartbeats 4000000 in
theorem iCloneR_any (w : World) (base g n cap : Nat) (rs : List R) (h : OwnR w base (.slice (some ⟨g, 0, none⟩) n cap) rs) (hn : rs.length = n) (h19 : n ≤ 1000) :
    Calls Tryz.prog 35 #[.slice (some ⟨g, 0, none⟩) n cap] w (NewR w rs) := by
  obtain ⟨i0, hi, hz0, hz1, hz2⟩ := info_parts info_row
  obtain ⟨hc1, hc2⟩ := h.capLe hn
  have hlt := h.inB.2
  have HO := Lib.hid h
  have HN := Lib.hid hn
  clear h hn
  have hnil : ∀ (w : World), (binOp .eql 25 (.slice (some ⟨g, 0, none⟩) n cap) (.slice none 0 0)).run Tryz.prog w = .ok (.bool false) w := fun w => Lib.run_eql_slice_nil w _ _ (some ⟨g, 0, none⟩) n cap 0 0 Tryz.underlying25
  go_enter Tryz.func35, Tryz.ntmps35
  go_wp2_with (at_builtin; refine wpList_append_own _ rfl _ _ 25 rfl w.heap.size 42 i0 zeroR.v 10 88 Tryz.underlying25 hi hz0 hz1 hz2 rfl (by decide) _ _ _ rfl (World.ownsRow_made w #[] 0 (Nat.le_refl _) (Nat.zero_le _) rfl) ⟨g, 0, none⟩ n cap (cellsR rs) rfl ?qc1 ?qc2 ?qc3 ?qc4 ?qc5 ?qc6 ?_)
  case qc1 => rw [cellsR_length, HN.out]
  case qc2 =>
    intro j u hj
    have hjn : j < rs.length * 10 := by
      have := (List.getElem?_eq_some_iff.1 hj).1
      rwa [cellsR_length] at this
    have e : j = j / 10 * 10 + j % 10 := by omega
    have hrow := HO.out.at HN.out (j / 10) (by rw [HN.out] at hjn; omega) (j % 10) (by omega)
    rw [← cellsR_at rs (j / 10) (j % 10) (by omega) (by omega), ← e] at hrow
    rw [Addr.add_lit, Nat.zero_add]
    exact Lib.cell?_alloc_some _ (hrow.trans hj)
  case qc3 => exact cellsR_one rs
  case qc4 => unfold maxLen; omega
  case qc5 => omega
  case qc6 => simp
  intro v' w1 hown hgrow hnil2
  have HV := Lib.hid hown
  have HG := Lib.hid hgrow
  have HNI := Lib.hid hnil2
  clear hown hgrow hnil2 hnil hi hz0 hz1 hz2
  go_wp2
  go_ret
  have hv : w1.ownsRow w.heap.size 42 10 v' n (cellsR rs) := by simpa using HV.out
  have hb : Below w.heap.size w w1 := ((Below.refl _ w).alloc (Nat.le_refl _) _).grown HG.out (by simp) (by intro k hk; simp [Value.ownBlock] at hk; omega)
  rcases hv.2 with ⟨e, _⟩ | ⟨g', cap', cur, e, _⟩
  · exact absurd e HNI.out
  · subst e
    refine ⟨g', cap', by rw [HN.out]; rfl, ?_, hb⟩
    unfold OwnR
    rw [HN.out]
    exact hv
theorem FitR.filter {rs : List R} (h : FitR rs) : ∀ r ∈ rs, r.Fit := fun r hr => by
  obtain ⟨j, hj, e⟩ := List.getElem_of_mem hr
  have := h j hj
  rw [List.getD_eq_getElem?_getD, List.getElem?_eq_getElem hj, Option.getD_some, e] at this
  exact this
set_option maxRecDepth 100000 in
set_option maxHeartbeats 4000000 in
theorem iReportOf_any (w : World) (base g n cap : Nat) (rs : List R) (h : OwnR w base (.slice (some ⟨g, 0, none⟩) n cap) rs) (hn : rs.length = n) (h19 : n ≤ 19) (hf : FitR rs) :
    Calls Tryz.prog 76 #[.slice (some ⟨g, 0, none⟩) n cap] w (MadeR w (oneV (sortV (rs.filter fun r => !quietV r)))) := by
  have HC := Lib.hid (iCloneR_any w base g n cap rs h hn (by omega))
  have HN := Lib.hid hn
  have HF := Lib.hid hf
  clear h hn hf
  go_enter Tryz.func76, Tryz.ntmps76
  go_wp2_with fail
  refine HC.out.mono ?_
  rintro e w1 ⟨g1, cap1, rfl, ho1, hb1⟩
  rw [HN.out] at ho1
  have HD := Lib.hid (iDel_any w1 w.heap.size g1 n cap1 rs ho1 HN.out HF.out)
  have HB1 := Lib.hid hb1
  have hge := ho1.inB.1
  clear ho1 hb1 HC
  rw [HN.out]
  go_wp2_with fail
  refine HD.out.mono ?_
  rintro e w2 ⟨n2, hn2, rfl, ho2, hg2⟩
  have hl2 : n2 ≤ 19 := by
    have := List.length_filter_le (fun r => !quietV r) rs
    rw [HN.out] at this; omega
  have HS := Lib.hid (iSort_any w2 w.heap.size g1 n2 cap1 _ ho2 hn2.symm hl2)
  have HB2 := Lib.hid (HB1.out.grown hg2 HB1.out.size (by intro _ h; cases h; exact hge))
  have HN2 := Lib.hid hn2
  clear ho2 hg2 HD HB1 hn2
  go_wp2_with fail
  refine HS.out.mono ?_
  rintro e w3 ⟨rfl, ho3, hg3⟩
  have HK := Lib.hid (iCompact_any w3 w.heap.size g1 n2 cap1 _ ho3 (by rw [sortV_length]; exact HN2.out.symm))
  have HB3 := Lib.hid (HB2.out.grown hg3 HB2.out.size (by intro _ h; cases h; exact hge))
  clear ho3 hg3 HS HB2
  go_wp2_with fail
  refine HK.out.mono ?_
  rintro e w4 ⟨n4, hn4, rfl, ho4, hg4⟩
  have HO4 := Lib.hid ho4
  have HB4 := Lib.hid (HB3.out.grown hg4 HB3.out.size (by intro _ h; cases h; exact hge))
  clear ho4 hg4 HK HB3 hn4
  go_wp2_with fail
  go_ret
  exact ⟨_, rfl, HO4.out, HB4.out⟩
end Go.Proofs.YtbhhhakfjmaglaaGreat
